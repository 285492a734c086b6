/-
  Alarms: the reference's Advance.
-/
import Derived.Test.YtnioaaahkhephaaAlmN
namespace Go.Proofs.Ytnioaaahkhephaa.al
open Go.RowKit Go.Maps aid mem
attribute [local go_sem ↓] Go.wp_at_zero Go.wp_at_succ
set_option linter.unusedVariables false
set_option linter.unusedSimpArgs false

structure RA (w : World) (a0 : Option Addr) (now : Int) (n : Nat) (L : List Int) (a : Option Addr) (cap : Nat) (out : List Int) (v : Value) (X : World) : Prop where
  box : X.heap[w.heap.size]? = some (rcO now a n cap)
  res : X.heap[w.heap.size + 1]? = some (rcO 0 none 0 0)
  sl : SlA .i64 X a n cap L
  row : X.ownsRow (w.heap.size + 2) 3 1 v out.length (ints .i64 out)
  sep : ∀ x, a = some x → 0 < cap → v.ownBlock ≠ some x.block
  below : Below w.heap.size w X
  far : ∀ x, a = some x → 0 < cap → x.block ≠ w.heap.size ∧ x.block ≠ w.heap.size + 1
  org : ∀ x, a = some x → a0 = some x ∨ w.heap.size ≤ x.block
section
variable {w X Y : World} {a0 : Option Addr} {now : Int} {n : Nat} {L : List Int} {a : Option Addr} {cap : Nat} {out : List Int} {v : Value}
theorem RA.later (h : RA w a0 now n L a cap out v X) (hb : Below X.heap.size X Y) : RA w a0 now n L a cap out v Y :=
  ⟨(hb.block _ (lt_of_block h.box)).trans h.box, (hb.block _ (lt_of_block h.res)).trans h.res, h.sl.later hb, own_later h.row hb, h.sep, h.below.trans (hb.mono h.below.size), h.far, h.org⟩
theorem RA.lt (h : RA w a0 now n L a cap out v X) (hn : 1 ≤ n) : ∀ x, a = some x → 0 < cap → x.block < X.heap.size := fun x hx h0 => by
  obtain ⟨g, o, e, hc⟩ := h.sl.cells h0
  have := World.block_lt_of_cell? X _ (hc 0 (by omega))
  rw [e] at hx; cases hx; exact this
theorem RA.c0 (h : RA w a0 now n L a cap out v X) : X.cell? ⟨w.heap.size, 0, none⟩ = some (.int .i64 now) := cofr h.box 0 _ rfl
theorem RA.c1 (h : RA w a0 now n L a cap out v X) : X.cell? ⟨w.heap.size, 1, none⟩ = some (.slice a n cap) := cofr h.box 1 _ rfl
theorem RA.app (h : RA w a0 now n L a cap out v X) (hn : 1 ≤ n) {z : Int} {a7 : Option Addr} {c7 : Nat} {W : World} (ho : W.ownsRow (w.heap.size + 2) 3 1 (.slice a7 (out.length + 1) c7) (out.length + 1) (ints .i64 out ++ [.int .i64 z]))
    (hg : (X.alloc (.cells #[.int .i64 z] 3)).grownBy W v.ownBlock) (hw : Value.ownBlock (.slice a7 (out.length + 1) c7) = v.ownBlock ∨ Value.ownBlock (.slice a7 (out.length + 1) c7) = some (X.alloc (.cells #[.int .i64 z] 3)).heap.size) :
    RA w a0 now n L a cap (out ++ [z]) (.slice a7 (out ++ [z]).length c7) W := by
  have h1 := h.later (bal (w := X) (.cells #[.int .i64 z] 3))
  have hlt := h1.lt hn
  have hlen : (out ++ [z]).length = out.length + 1 := by simp
  refine ⟨(hg.block _ (lt_of_block h1.box) (fun e => by have := (own_in h1.row e.symm).2; omega)).trans h1.box, (hg.block _ (lt_of_block h1.res) (fun e => by have := (own_in h1.row e.symm).2; omega)).trans h1.res, ?_, ?_, fun x hx h0 => ?_, h1.below.trans (below_grown hg h1.below.size (fun j hj => by have := (own_in h1.row hj).2; omega)), h.far, h.org⟩
  · have hk : Kept (blkV v) (X.alloc (.cells #[.int .i64 z] 3)) W := (Kept.refl (blkV v) _).grown hg (fun k hk => .inl (by unfold blkV; rw [hk]; simp))
    refine h1.sl.keepIf hk (fun x hx h0 hm => h1.sep x hx h0 ?_)
    unfold blkV at hm; revert hm; cases v.ownBlock <;> simp; exact fun e => e.symm
  · rw [hlen, ints_append]; exact ho
  · rw [hlen]
    rcases hw with e | e
    · rw [e]; exact h1.sep x hx h0
    · rw [e]; intro q; injection q with q; have := hlt x hx h0; omega
theorem RA.put (h : RA w a0 now n L a cap out v X) {L2 : List Int} {a3 : Option Addr} {cap3 : Nat} {W : World} (hs : SlA .i64 W a3 n cap3 L2) (hb : Below X.heap.size X W) (hn : ∀ x, a3 = some x → X.heap.size ≤ x.block) :
    RA w a0 now n L2 a3 cap3 out v ((W.setCell ⟨w.heap.size, 0, none⟩ (.int .i64 now)).setCell ⟨w.heap.size, 1, none⟩ (.slice a3 n cap3)) := by
  have h1 := h.later hb
  obtain ⟨r1, r2, k⟩ := res_put (w := w) h1.box (Nat.le_refl _) h1.below now a3 n cap3
  have hbx := lt_of_block h.box
  refine ⟨r1, k.heap (by simp) h1.res, hs.keep k (fun x hx => by have := hn x hx; simp; omega), own_step h1.row (fun j o hj ho => k.heap (fun e => by simp at e; have := (own_in h1.row hj).2; omega) ho), fun x hx _ e => ?_, r2, fun x hx _ => by have := hn x hx; have := lt_of_block h.res; omega, fun x hx => .inr (by have := hn x hx; have := lt_of_block h.res; omega)⟩
  have := (own_in h.row e).1
  have := hn x hx
  omega
end
def RetAv (a0 : Option Addr) (now : Int) (R L : List Int) (u : Int) (w : World) (e : Ending) (w' : World) : Prop :=
  ∃ a cap v, e = .returned (.tuple #[rc now a L.length cap, v, .int .i64 u]) ∧ SlA .i64 w' a L.length cap L ∧ w'.ownsRow w.heap.size 3 1 v R.length (ints .i64 R) ∧ Below w.heap.size w w' ∧ ∀ x, a = some x → a0 = some x ∨ w.heap.size ≤ x.block
theorem ret_fold3 {w : World} {now : Int} {a : Option Addr} {n cap : Nat} {L : List Int} (h : SlA .i64 w a n cap L) :
    Hid (((w.alloc (rcO now a n cap)).alloc (rcO now a n cap)).heap[w.heap.size + 1]? = some (rcO now a n cap) ∧ RetAv a now [] L 3 w (.returned (.tuple #[rc now a n cap, .slice none 0 0, .int .i64 3])) ((w.alloc (rcO now a n cap)).alloc (rcO now a n cap))) := by
  have h1 := bal (w := w) (rcO now a n cap)
  have h2 := bal (w := w.alloc (rcO now a n cap)) (rcO now a n cap)
  have x2 := heap_alloc_new (w.alloc (rcO now a n cap)) (rcO now a n cap)
  have hz : (w.alloc (rcO now a n cap)).heap.size = w.heap.size + 1 := by simp
  rw [hz] at x2
  have hb := h1.trans (h2.mono h1.size)
  have hl := h.len
  exact Lib.hid ⟨x2, a, cap, _, by rw [hl], by rw [hl]; exact h.later hb, World.ownsRow_nil _ _ _ _, hb, fun x hx => .inl hx⟩
theorem ra_end {w X : World} {a0 : Option Addr} {now : Int} {n : Nat} {L : List Int} {a : Option Addr} {cap : Nat} {out : List Int} {v : Value} (h : RA w a0 now n L a cap out v X) :
    Hid (((X.setCell ⟨w.heap.size + 1, 0, none⟩ (.int .i64 now)).setCell ⟨w.heap.size + 1, 1, none⟩ (.slice a n cap)).heap[w.heap.size + 1]? = some (rcO now a n cap) ∧
    RetAv a0 now out L 0 w (.returned (.tuple #[rc now a n cap, v, .int .i64 0])) ((X.setCell ⟨w.heap.size + 1, 0, none⟩ (.int .i64 now)).setCell ⟨w.heap.size + 1, 1, none⟩ (.slice a n cap))) := by
  obtain ⟨r1, r2, k⟩ := res_put (w := w) h.res (Nat.le_succ _) h.below now a n cap
  have hl := h.sl.len
  refine Lib.hid ⟨r1, a, cap, v, by rw [hl], ?_, ?_, r2, h.org⟩
  · rw [hl]
    exact h.sl.keepIf k (fun x hx h0 => by have := (h.far x hx h0).2; simpa using this)
  · obtain ⟨h1, h2⟩ := own_step h.row (W' := _) (fun j o hj ho => k.heap (fun e => by simp at e; have := (own_in h.row hj).2; omega) ho)
    refine ⟨h1, ?_⟩
    rcases h2 with h2 | ⟨g, c, cur, e1, e2, e3⟩
    · exact .inl h2
    · exact .inr ⟨g, c, cur, e1, by omega, e3⟩
theorem ra_start {w : World} {now : Int} {n : Nat} {L : List Int} {a : Option Addr} {cap : Nat} (h : SlA .i64 w a n cap L) (hn : 1 ≤ n) : RA w a now n L a cap [] (.slice none 0 0) ((w.alloc (rcO now a n cap)).alloc (rcO 0 none 0 0)) := by
  have hb := b2_new w now a n cap
  refine ⟨hb.box, hb.res, h.later hb.below, World.ownsRow_nil _ _ _ _, fun _ _ _ e => (by cases e), hb.below, fun x hx h0 => ?_, fun x hx => .inl hx⟩
  obtain ⟨g, o, e, hc⟩ := h.cells h0
  have := World.block_lt_of_cell? w _ (hc 0 (by omega))
  rw [e] at hx; cases hx
  simp at this ⊢; omega
theorem ring_step (now : Int) (f : Nat) (L : List Int) : ring now (f + 1) L = if nx L L.length < 0 ∨ now < L.getD (nx L L.length).toNat 0 then ([], L) else
    (nx L L.length :: (ring now f (L.set (nx L L.length).toNat (-1))).1, (ring now f (L.set (nx L L.length).toNat (-1))).2) := rfl
def RAdvP (a0 : Option Addr) (now : Int) (n : Nat) (L0 : List Int) (dt : Int) (w : World) (e : Ending) (w' : World) : Prop :=
      ((dt < 0 ∨ 4611686018427387904 - now < dt) ∧ RetAv a0 now [] L0 3 w e w') ∨ (¬ (dt < 0 ∨ 4611686018427387904 - now < dt) ∧ RetAv a0 (now + dt) (ring (now + dt) n L0).1 (ring (now + dt) n L0).2 0 w e w')
set_option maxRecDepth 100000 in
set_option maxHeartbeats 4000000 in
theorem radv_any {w : World} {a : Option Addr} {n cap : Nat} {L0 : List Int} (h : SlA .i64 w a n cap L0) (now : Int) (hn1 : 1 ≤ n) (hn : n ≤ 1000) (hnow : 0 ≤ now ∧ now ≤ 4611686018427387904) (dt : Int) (hdt : -9223372036854775808 ≤ dt ∧ dt ≤ 9223372036854775807) :
    Calls Try.prog 25 #[rc now a n cap, .int .i64 dt] w (RAdvP a now n L0 dt w) := by
  obtain ⟨i0, hi0, hz0, hz1, hz2⟩ := info_split info_int8
  have hle := h.le
  have HB := b2_new w now a n cap
  have c0 := HB.c0; have c1 := HB.c1; have r0 := HB.r0; have r1 := HB.r1; have f0 := HB.f0; have f1 := HB.f1
  have g0 := fofr HB.box 0
  by_cases h1 : dt < 0
  · have HO := ret_fold3 (now := now) h
    have y0 := cofr HO.out.1 0 _ rfl; have y1 := cofr HO.out.1 1 _ rfl
    clear h HB
    go_enter Try.func25, Try.ntmps25
    go_wp2_with fail
    exact bodyPost_ret (v := .tuple #[rc now a n cap, .slice none 0 0, .int .i64 3]) (by simp [results, Try.results25, go_sem, y0, y1]) rfl (.inl ⟨.inl h1, HO.out.2⟩)
  by_cases h2 : 4611686018427387904 - now < dt
  · have HO := ret_fold3 (now := now) h
    have y0 := cofr HO.out.1 0 _ rfl; have y1 := cofr HO.out.1 1 _ rfl
    clear h HB
    go_enter Try.func25, Try.ntmps25
    go_wp2_with fail
    exact bodyPost_ret (v := .tuple #[rc now a n cap, .slice none 0 0, .int .i64 3]) (by simp [results, Try.results25, go_sem, y0, y1]) rfl (.inl ⟨.inr h2, HO.out.2⟩)
  have HOK := Lib.hid (show ¬ (dt < 0 ∨ 4611686018427387904 - now < dt) by omega)
  have hwr : IntKind.i64.wrap (now + dt) = now + dt := IntWalk.i64_in _ (by omega)
  have HST := Lib.hid (ra_start (now := now + dt) h hn1)
  clear h HB
  have HEND := Lib.hid (fun (e : Ending) (w' : World) (hr : RetAv a (now + dt) (ring (now + dt) n L0).1 (ring (now + dt) n L0).2 0 w e w') => show RAdvP a now n L0 dt w e w' from .inr ⟨HOK.out, hr⟩)
  generalize hn2 : now + dt = now2 at *
  go_enter Try.func25, Try.ntmps25
  go_wp2_with fail
  clear c0 c1 r0 r1 f0 f1 g0 hwr h1 h2
  go_loopw [7, 8, 9] (fun s7 s8 s9 wr => ∃ (k : Nat) (out : List Int) (v : Value), k ≤ n ∧ s7 = v ∧ s8 = .int .i64 k ∧ out.length ≤ k ∧ Hid (∃ L a1 cap, RA w a now2 n L a1 cap out v wr ∧ out ++ (ring now2 (n - k) L).1 = (ring now2 n L0).1 ∧ (ring now2 (n - k) L).2 = (ring now2 n L0).2)) (fun _ s8 _ _ => n - (intOf s8).toNat)
  case atStart => exact ⟨0, [], _, Nat.zero_le _, rfl, rfl, Nat.zero_le _, Lib.hid ⟨L0, a, cap, HST.out, rfl, rfl⟩⟩
  case round =>
    clear HST
    obtain ⟨k, out, v, hk, rfl, rfl, hok, HR⟩ := hrel
    obtain ⟨L, a1, cap, R, e1, e2⟩ := HR.out
    have c1 := R.c1
    have hlen := R.sl.len
    by_cases hlt : k < n
    · have HNX := Lib.hid (rnext_any R.sl now2 hn)
      have hst := ring_step now2 (n - k - 1) L
      rw [show n - k - 1 + 1 = n - k by omega, hlen] at hst
      have hR := Lib.hid R
      have c0 := R.c0
      have hcz := R.sl.le
      clear HR R
      go_wp2_with fail
      refine HNX.out.mono ?_
      rintro e w1 ⟨rfl, hb1⟩
      have HR1 := Lib.hid (hR.out.later hb1)
      clear hb1 hR HNX c0 c1
      have c0 := HR1.out.c0
      have c1 := HR1.out.c1
      by_cases hx : nx L n < 0
      · rw [if_pos (.inl hx)] at hst
        have f1 : (ring now2 n L0).1 = out := by rw [← e1, hst]; simp
        have f2 : (ring now2 n L0).2 = L := by rw [← e2, hst]
        rw [f1, f2] at HEND
        clear f1 f2 e1 e2 hst
        generalize nx L n = b at *
        go_wp2_with fail
        go_quiet (fail)
        have HR2 := Lib.hid (HR1.out.later (show Below w1.heap.size w1 (w1.drewN nq) from ⟨rfl, rfl, rfl, Nat.le_refl _, fun _ _ => rfl⟩))
        clear HR1 c0 c1
        generalize w1.drewN nq = w2 at *
        have c0 := HR2.out.c0; have c1 := HR2.out.c1
        have r0 := cofr HR2.out.res 0 _ rfl; have r1 := cofr HR2.out.res 1 _ rfl; have f0 := fofr HR2.out.res 0; have f1 := fofr HR2.out.res 1
        have HE := ra_end HR2.out
        have y0 := cofr HE.out.1 0 _ rfl; have y1 := cofr HE.out.1 1 _ rfl
        clear HR2
        go_wp2_with fail
        exact bodyPost_ret (v := .tuple #[rc now2 a1 n cap, u7, .int .i64 0]) (by simp [results, Try.results25, go_sem, y0, y1]) rfl (HEND.out _ _ HE.out.2)
      · obtain ⟨m, hm⟩ := Int.eq_ofNat_of_zero_le (Int.not_lt.1 hx)
        have hmn : m < n := by have := (nx_rng L n).2; omega
        obtain ⟨g, o, ea, hc⟩ := HR1.out.sl.cells (by omega)
        subst ea
        have m0 := hc m hmn
        rw [hm] at hst hx ⊢
        rw [Int.toNat_natCast] at hst
        have hm0 : decide ((m : Int) < 0) = false := decide_eq_false hx
        have hmi : (m : Int) < n := by omega
        clear hc
        by_cases hy : now2 < L.getD m 0
        · rw [if_pos (.inr hy)] at hst
          have f1 : (ring now2 n L0).1 = out := by rw [← e1, hst]; simp
          have f2 : (ring now2 n L0).2 = L := by rw [← e2, hst]
          rw [f1, f2] at HEND
          clear f1 f2 e1 e2 hst hm
          generalize L.getD m 0 = y at *
          go_wp2_with fail
          go_quiet (fail)
          have HR2 := Lib.hid (HR1.out.later (show Below w1.heap.size w1 (w1.drewN nq) from ⟨rfl, rfl, rfl, Nat.le_refl _, fun _ _ => rfl⟩))
          clear HR1 c0 c1 m0
          generalize w1.drewN nq = w2 at *
          have c0 := HR2.out.c0; have c1 := HR2.out.c1
          have r0 := cofr HR2.out.res 0 _ rfl; have r1 := cofr HR2.out.res 1 _ rfl; have f0 := fofr HR2.out.res 0; have f1 := fofr HR2.out.res 1
          have HE := ra_end HR2.out
          have y0 := cofr HE.out.1 0 _ rfl; have y1 := cofr HE.out.1 1 _ rfl
          clear HR2
          go_wp2_with fail
          exact bodyPost_ret (v := .tuple #[rc now2 (some ⟨g, o, none⟩) n cap, u7, .int .i64 0]) (by simp [results, Try.results25, go_sem, y0, y1]) rfl (HEND.out _ _ HE.out.2)
        · rw [if_neg (by omega)] at hst
          have f1 : out ++ [(m : Int)] ++ (ring now2 (n - (k + 1)) (L.set m (-1))).1 = (ring now2 n L0).1 := by rw [← e1, hst]; simp [show n - k - 1 = n - (k + 1) by omega]
          have f2 : (ring now2 (n - (k + 1)) (L.set m (-1))).2 = (ring now2 n L0).2 := by rw [← e2, hst]; simp [show n - k - 1 = n - (k + 1) by omega]
          have HF := Lib.hid (And.intro f1 f2)
          have hls : (L.set m (-1)).length = n := by rw [List.length_set, hlen]
          have hyd : decide (now2 < L.getD m 0) = false := decide_eq_false hy
          clear f1 f2 e1 e2 hst hm HEND hy
          generalize L.getD m 0 = y at *
          obtain ⟨ov, oc, hov, hosl, _⟩ := sl_of_own HR1.out.row
          subst hov
          go_wp2_with fail
          go_quiet (fail)
          have HR2 := Lib.hid (HR1.out.later (show Below w1.heap.size w1 (w1.drewN nq) from ⟨rfl, rfl, rfl, Nat.le_refl _, fun _ _ => rfl⟩))
          clear HR1 c0 c1 m0 hosl
          generalize w1.drewN nq = w2 at *
          have HO := Lib.hid (own_later HR2.out.row (bal (w := w2) (.cells #[.int .i64 m] 3)))
          have HSRC := Lib.hid (int_src w2 m)
          have HA := Lib.hid (fun (a7 : Option Addr) (c7 : Nat) (W : World) ho hg hw => HR2.out.app hn1 (z := m) (a7 := a7) (c7 := c7) (W := W) ho hg hw)
          have hge : w.heap.size + 2 ≤ w2.heap.size := by have := lt_of_block HR2.out.res; omega
          clear HR2
          go_wp2_with (at_builtin; go_must (refine wpList_append_any _ rfl (.tmp 48) (.tmp 50) 28 28 rfl (w.heap.size + 2) 3 i0 (.int .i64 0) 8 Try.underlying28 hi0 hz0 hz1 hz2 rfl (.slice ov out.length oc) out.length (ints .i64 out) rfl HO.out _ rfl 1 [.int .i64 m] HSRC.out (by unfold maxLen; omega) (by omega) (by simp; omega) ?_); intro a7 c7 w4 ho hg hw; have HR4 := Lib.hid (HA.out a7 c7 w4 ho hg hw); have c0 := HR4.out.c0; have c1 := HR4.out.c1; clear ho hg hw HO HSRC HA)
          refine (rput_any HR4.out.sl now2 hmn (-1) hn).mono ?_
          rintro e w5 ⟨a3, cap3, rfl, q1, q2, q3⟩
          rw [hls] at q1
          have HR5 := Lib.hid (HR4.out.put q1 q2 q3)
          have hbx := ((HR4.out.later q2).box)
          have z0 := cofr hbx 0 _ rfl; have z1 := cofr hbx 1 _ rfl; have g0 := fofr hbx 0; have g1 := fofr hbx 1
          clear q1 q2 q3 hbx HR4 c0 c1
          go_wp2_with fail
          go_roundw
          case rel => exact ⟨k + 1, out ++ [(m : Int)], _, by omega, by simp, by go_num, by simp; omega, Lib.hid ⟨_, _, _, HR5.out, HF.out.1, HF.out.2⟩⟩
          case measure => simp [intOf]; omega
    · obtain rfl : k = n := by omega
      have e3 : (ring now2 (k - k) L) = ([], L) := by rw [Nat.sub_self]; rfl
      have f1 : (ring now2 k L0).1 = out := by rw [← e1, e3]; simp
      have f2 : (ring now2 k L0).2 = L := by rw [← e2, e3]
      rw [f1, f2] at HEND
      clear f1 f2 e1 e2 e3 HR
      have c0 := R.c0
      have r0 := cofr R.res 0 _ rfl; have r1 := cofr R.res 1 _ rfl; have f0 := fofr R.res 0; have f1 := fofr R.res 1
      have HE := ra_end R
      have y0 := cofr HE.out.1 0 _ rfl; have y1 := cofr HE.out.1 1 _ rfl
      have hle2 := R.sl.le
      clear R
      go_wp2_with fail
      exact bodyPost_ret (v := .tuple #[rc now2 a1 k cap, u7, .int .i64 0]) (by simp [results, Try.results25, go_sem, y0, y1]) rfl (HEND.out _ _ HE.out.2)
end Go.Proofs.Ytnioaaahkhephaa.al
