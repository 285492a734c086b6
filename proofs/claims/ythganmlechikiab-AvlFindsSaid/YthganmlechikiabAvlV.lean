/-
  Layer 8's law: whatever is put and deleted.
-/
import Derived.Test.YthganmlechikiabAvlF
namespace Go.Proofs.Ythganmlechikiab.av
open Go.RowKit aid mem rng
attribute [local go_sem ↓] Go.wp_at_zero Go.wp_at_succ
set_option linter.unusedVariables false

/-- what lies between two operations -/
structure Pl (w0 w : World) (x : Nat) (o : OpV) (b : Nat) (t : T) (a : Option Addr) (n cap : Nat) : Prop where
  ts : TS w0 w b t
  row : Row8 w0.heap.size w a n cap t.toL
  box : w.heap[x]? = some (.cells #[.bool o.out, .int .i64 o.key, .int .i64 o.v] 24 (0, 0))
theorem Pl.later {w0 w w' : World} {x : Nat} {o : OpV} {b : Nat} {t : T} {a : Option Addr} {n cap : Nat} (h : Pl w0 w x o b t a n cap) (hb : Below w.heap.size w w') : Pl w0 w' x o b t a n cap :=
  ⟨h.ts.later hb, h.row.later hb, (hb.block x (lt_of_block h.box)).trans h.box⟩
theorem box_keep {w w' : World} {x b : Nat} {o : OpV} {t : T} (h : w.heap[x]? = some (.cells #[.bool o.out, .int .i64 o.key, .int .i64 o.v] 24 (0, 0))) (ht : TrAt w b t) (hk : Kept [b] w w') :
    w'.heap[x]? = some (.cells #[.bool o.out, .int .i64 o.key, .int .i64 o.v] 24 (0, 0)) := by
  obtain ⟨r, h1, _⟩ := ht
  refine hk.heap ?_ h
  simp only [List.mem_singleton]
  rintro rfl
  rw [h1] at h
  simp at h
theorem Pl.step {w0 w w' : World} {x : Nat} {o : OpV} {b : Nat} {t t' : T} {a a' : Option Addr} {n n' cap cap' : Nat} (h : Pl w0 w x o b t a n cap) (ht : TrAt w' b t') (hr : Row8 w0.heap.size w' a' n' cap' t'.toL) (hk : Kept [b] w w') : Pl w0 w' x o b t' a' n' cap' :=
  ⟨⟨ht, h.ts.below.trans (hk.below (by simpa using h.ts.le) h.ts.below.size), h.ts.le⟩, hr, box_keep h.box h.ts.tree hk⟩
theorem Pl.n {w0 w : World} {x : Nat} {o : OpV} {b : Nat} {t : T} {a : Option Addr} {n cap : Nat} (h : Pl w0 w x o b t a n cap) : n = t.size := by
  have := h.row.pr.len; rw [T.size_toL] at this; exact this.symm

def RetD2 (B : Nat) (b : Nat) (t2 : T) (w : World) (e : Ending) (w' : World) : Prop :=
  ∃ a n cap, e = .returned (.tuple #[.slice a n cap, .bool true]) ∧ TrAt w' b t2 ∧ Row8 B w' a n cap t2.toL ∧ Kept [b] w w'
theorem does2 {B : Nat} {w : World} {b : Nat} {t : T} {a : Option Addr} {n cap : Nat} (q : OpV) (ht : TrAt w b t) (hr : Row8 B w a n cap t.toL) (hu : T.Up t.toL) (hs : t.size ≤ 90000) (hB : B ≤ w.heap.size) :
    Calls Try.prog 10 #[.pointer (some ⟨b, 0, none⟩), .slice a n cap, .agg #[.bool q.out, .int .i64 q.key, .int .i64 q.v]] w (RetD2 B b (step q t) w) := does_any q ht hr hu hs hB
theorem told8 {w : World} {b : Nat} {t : T} (h : TrAt w b t) (hu : T.Up t.toL) (hbd : Bound t) (hs : t.size ≤ 90000) :
    Calls Try.prog 14 #[.pointer (some ⟨b, 0, none⟩), .bool false] w fun e w' => ∃ a c, e = .returned (.slice a t.size c) ∧ PrA w' a t.size c t.toL ∧ Below w.heap.size w w' :=
  (told_any h.o hu hbd (by omega)).mono fun e w' h => by
    obtain ⟨a, c, rfl, ho, hb⟩ := h.n
    have hp := Row8.pr (show Row8 w.heap.size w' a t.toL.length c t.toL from ho)
    rw [T.size_toL] at hp ⊢
    exact ⟨a, c, rfl, hp, hb⟩
theorem back8 {w : World} {b : Nat} {t : T} (h : TrAt w b t) (hu : T.Up t.toL) (hbd : Bound t) (hs : t.size ≤ 90000) :
    Calls Try.prog 14 #[.pointer (some ⟨b, 0, none⟩), .bool true] w fun e w' => ∃ a c, e = .returned (.slice a t.size c) ∧ PrA w' a t.size c t.toL.reverse ∧ Below w.heap.size w w' :=
  (back_told h.o hu hbd (by omega)).mono fun e w' h => by
    obtain ⟨a, c, rfl, ho, hb⟩ := h.n
    have hp := Row8.pr (show Row8 w.heap.size w' a t.toL.reverse.length c t.toL.reverse from ho)
    rw [List.length_reverse, T.size_toL] at hp ⊢
    exact ⟨a, c, rfl, hp, hb⟩
/-- behind the copy's operation -/
structure Pm (w0 w : World) (b : Nat) (t : T) (a : Option Addr) (c : Nat) (bc : Nat) (t6 : T) (a6 : Option Addr) (c6 : Nat) : Prop where
  tb : TrAt w b t
  rl : PrA w a t.size c t.toL
  tc : TrAt w bc t6
  rn : PrA w a6 t6.size c6 t6.toL
  below : Below w0.heap.size w0 w
theorem Pm.later {w0 w w' : World} {b : Nat} {t : T} {a : Option Addr} {c bc : Nat} {t6 : T} {a6 : Option Addr} {c6 : Nat} (h : Pm w0 w b t a c bc t6 a6 c6) (hb : Below w.heap.size w w') : Pm w0 w' b t a c bc t6 a6 c6 :=
  ⟨h.tb.later hb, h.rl.later hb, h.tc.later hb, h.rn.later hb, h.below.trans (hb.mono h.below.size)⟩
/-- the copy made -/
structure Pc (w0 w : World) (x : Nat) (o : OpV) (b : Nat) (t : T) (a : Option Addr) (n cap : Nat) (bc : Nat) : Prop where
  pl : Pl w0 w x o b t a n cap
  tc : TrAt w bc t
  ne : b ≠ bc
  le : w0.heap.size ≤ bc
theorem pl_clone {w0 w : World} {x : Nat} {o : OpV} {b : Nat} {t : T} {a : Option Addr} {n cap : Nat} (h : Pl w0 w x o b t a n cap) :
    Calls Try.prog 15 #[.pointer (some ⟨b, 0, none⟩)] w fun e w' => ∃ bc, e = .returned (.pointer (some ⟨bc, 0, none⟩)) ∧ Pc w0 w' x o b t a n cap bc :=
  (clone_any h.ts.tree).mono fun e w' ⟨h1, h2, h3⟩ => ⟨_, h1, h.later h3, h2, by have := h.ts.tree.lt; omega, h.ts.below.size⟩
theorem pc_does {w0 w : World} {x : Nat} {o : OpV} {b : Nat} {t : T} {a : Option Addr} {cap : Nat} {bc : Nat} (h : Pc w0 w x o b t a t.size cap bc) (hu : T.Up t.toL) (hs : t.size ≤ 90000) :
    Calls Try.prog 10 #[.pointer (some ⟨bc, 0, none⟩), .slice a t.size cap, .agg #[.bool o.out, .int .i64 o.key, .int .i64 o.v]] w fun e w' =>
      ∃ a6 c6, e = .returned (.tuple #[.slice a6 (step o t).size c6, .bool true]) ∧ Pm w0 w' b t a cap bc (step o t) a6 c6 :=
  (does2 o h.tc h.pl.row hu hs h.pl.ts.below.size).mono fun e w' ⟨a6, n6, c6, h1, h2, h3, h4⟩ => by
    have hn := h3.pr.len
    rw [T.size_toL] at hn
    subst hn
    exact ⟨a6, c6, h1, h.pl.ts.tree.keep h.tc h4 h.ne, (h.pl.row.keep h.tc h4).pr, h2, h3.pr, h.pl.ts.below.trans (h4.below (by simpa using h.le) h.pl.ts.below.size)⟩
theorem Pc.box {w0 w : World} {x : Nat} {o : OpV} {b : Nat} {t : T} {a : Option Addr} {n cap : Nat} {bc : Nat} (h : Pc w0 w x o b t a n cap bc) :
    w.cell? ⟨x, 0, none⟩ = some (.bool o.out) ∧ w.cell? ⟨x, 1, none⟩ = some (.int .i64 o.key) ∧ w.cell? ⟨x, 2, none⟩ = some (.int .i64 o.v) :=
  ⟨(cell_of_row w x 0 _ _ (0, 0) h.pl.box).trans rfl, (cell_of_row w x 1 _ _ (0, 0) h.pl.box).trans rfl, (cell_of_row w x 2 _ _ (0, 0) h.pl.box).trans rfl⟩
theorem cw {w w' : World} {p : Addr} {v : Value} (hb : Below w.heap.size w w') (h : w.cell? p = some v) : w'.cell? p = some v := (hb.cell (World.block_lt_of_cell? w _ h)).trans h

set_option maxRecDepth 100000 in
set_option maxHeartbeats 4000000 in
theorem walk_AvlPlays (w : World) (a : Option Addr) (n cap : Nat) (l : List OpV) (hl : OpA w a n cap l) (s : { q : OpV // -9223372036854775808 ≤ q.key }) :
    Calls Try.prog 3 #[.slice a n cap, .agg #[.bool s.1.out, .int .i64 s.1.key, .int .i64 s.1.v]] w fun e w' => e = .returned (.bool true) ∧ Below w.heap.size w w' := by
  have hle := hl.le
  have hmost := hl.most
  unfold maxLen at hmost
  have HC := Lib.hid hl.cells
  have HLO := Lib.hid (fun i (hi : i < n) => show -9223372036854775808 ≤ (l.getD i default).key from hl.lo _ (by
    have hil : i < l.length := by rw [hl.len]; exact hi
    rw [show l.getD i default = l[i] from by simp [List.getD, hil]]; exact List.getElem_mem _))
  clear hl
  obtain ⟨o, ho⟩ := s
  dsimp only
  have hb0 := bal' (w := w) (.cells #[.bool o.out, .int .i64 o.key, .int .i64 o.v] 24)
  have hbox := heap_alloc_new w (.cells #[.bool o.out, .int .i64 o.key, .int .i64 o.v] 24)
  have HB0 := Lib.hid hb0
  have HBOX := Lib.hid hbox
  clear hb0 hbox
  go_enter Try.func3, Try.ntmps3
  go_wp2_with (first
    | (go_at_call 8; (with_reducible refine (known_any _).mono ?_); rintro e w1 ⟨rfl, hB1⟩; have hBB := HB0.out.trans (hB1.mono HB0.out.size))
    | (go_at_call 9; (with_reducible refine (new_ts hBB).mono ?_); rintro e w2 ⟨b, rfl, S2, q1, q2⟩; have HQ2 := Lib.hid q2; clear q1 q2))
  have P0 : Pl w w2 w.heap.size o b .nil none 0 0 := ⟨S2, row8_nil _ _, (HQ2.out.block _ (by have := hB1.size; simp at this; omega)).trans ((hB1.block _ (by simp)).trans HBOX.out)⟩
  clear S2 HQ2 hB1 hBB HBOX HB0
  generalize hx : w.heap.size = x at *
  have HX := Lib.hid hx
  clear hx
  go_loopw [6, 7] (fun lv i wr => ∃ (k : Nat) (t : T) (a1 : Option Addr) (n1 c1 : Nat), lv = .slice a1 n1 c1 ∧ i = .int .i64 k ∧ k ≤ n ∧ k ≤ 300 ∧ t.size ≤ k ∧ Hid (T.Up t.toL) ∧ Hid (Bound t) ∧ Pl w wr x o b t a1 n1 c1) (fun _ i _ => n - (intOf i).toNat)
  case atStart => exact ⟨0, .nil, none, 0, 0, rfl, rfl, Nat.zero_le _, by omega, Nat.zero_le _, Lib.hid List.Pairwise.nil, Lib.hid (fun x hx => by cases hx), P0⟩
  case round =>
    clear P0
    obtain ⟨k, t, a1, n1, c1, rfl, rfl, hkn, hk, hts, HU, HBD, PP⟩ := hrel
    obtain ⟨wo, rfl⟩ : ∃ wo : World, wo = wr := ⟨_, rfl⟩
    by_cases hlt : k < n ∧ k < 300
    · obtain ⟨h1, h2⟩ := hlt
      obtain ⟨B, off, rfl, hc⟩ := HC.out (by omega)
      have hBo := PP.ts.below
      obtain ⟨c0, c1', c2⟩ := hc k h1
      replace c0 := hBo.cell (p := ⟨B, off + k * 3, none⟩) (World.block_lt_of_cell? w _ c0) |>.trans c0
      replace c1' := hBo.cell (p := ⟨B, off + k * 3 + 1, none⟩) (World.block_lt_of_cell? w _ c1') |>.trans c1'
      replace c2 := hBo.cell (p := ⟨B, off + k * 3 + 2, none⟩) (World.block_lt_of_cell? w _ c2) |>.trans c2
      have HQ := Lib.hid (HLO.out k h1)
      have HCK := Lib.hid (hc k h1)
      clear hc hBo
      generalize l.getD k default = q at *
      have HD := Lib.hid (does2 (B := w.heap.size) q PP.ts.tree PP.row HU.out (by omega) PP.ts.below.size)
      have HUS := Lib.hid (step_up (q := q) HU.out)
      have HBS := Lib.hid (step_bound HU.out HBD.out HQ.out)
      have hsz := step_size q t
      have HG := Lib.hid (step_get q HU.out)
      obtain ⟨out, key, v⟩ := q
      dsimp only at *
      generalize step ⟨out, key, v⟩ t = t2 at *
      cases out with
      | true =>
        change Hid (getL t2.toL key = none) at HG
        have HGET := Lib.hid (fun (X : World) (h : TrAt X b t2) => show Calls Try.prog 11 #[.pointer (some ⟨b, 0, none⟩), .int .i64 key] X fun e w' => e = .returned (.tuple #[.int .i64 0, .bool false]) ∧ Below X.heap.size X w' from by have := get_any h.o key HUS.out; rwa [HG.out] at this)
        go_wp2_with (first
          | (go_at_call 10; (with_reducible refine HD.out.mono ?_); rintro e w3 ⟨a2, n2, c2', rfl, ht3, hr3, hk3⟩; have P3 := PP.step ht3 hr3 hk3; have hn2 := P3.n; clear ht3 hr3 hk3; subst hn2; have d0 := cw P3.ts.below HCK.out.1; have d1 := cw P3.ts.below HCK.out.2.1)
          | (go_at_call 11; (with_reducible refine (HGET.out _ P3.ts.tree).mono ?_); rintro e w4 ⟨rfl, hb4⟩; have P4 := P3.later hb4; clear P3 hb4; have e0 := cw P4.ts.below HCK.out.1; have e2 := cw P4.ts.below HCK.out.2.2)
          | (go_at_call 12; (with_reducible refine (tlen_any P4.ts.tree.o).mono ?_); rintro e w' ⟨rfl, rfl⟩))
        go_roundw
        case rel => exact ⟨k + 1, t2, a2, _, c2', rfl, by go_num, by omega, by omega, by omega, HUS, HBS, P4⟩
        case measure => simp [intOf]; omega
      | false =>
        change Hid (getL t2.toL key = some v) at HG
        have HGET := Lib.hid (fun (X : World) (h : TrAt X b t2) => show Calls Try.prog 11 #[.pointer (some ⟨b, 0, none⟩), .int .i64 key] X fun e w' => e = .returned (.tuple #[.int .i64 v, .bool true]) ∧ Below X.heap.size X w' from by have := get_any h.o key HUS.out; rwa [HG.out] at this)
        go_wp2_with (first
          | (go_at_call 10; (with_reducible refine HD.out.mono ?_); rintro e w3 ⟨a2, n2, c2', rfl, ht3, hr3, hk3⟩; have P3 := PP.step ht3 hr3 hk3; have hn2 := P3.n; clear ht3 hr3 hk3; subst hn2; have d0 := cw P3.ts.below HCK.out.1; have d1 := cw P3.ts.below HCK.out.2.1)
          | (go_at_call 11; (with_reducible refine (HGET.out _ P3.ts.tree).mono ?_); rintro e w4 ⟨rfl, hb4⟩; have P4 := P3.later hb4; clear P3 hb4; have e0 := cw P4.ts.below HCK.out.1; have e2 := cw P4.ts.below HCK.out.2.2)
          | (go_at_call 12; (with_reducible refine (tlen_any P4.ts.tree.o).mono ?_); rintro e w' ⟨rfl, rfl⟩))
        go_roundw
        case rel => exact ⟨k + 1, t2, a2, _, c2', rfl, by go_num, by omega, by omega, by omega, HUS, HBS, P4⟩
        case measure => simp [intOf]; omega
    · have hn1 := PP.n
      subst hn1
      have hts2 : t.size ≤ 90000 := by omega
      have HD := Lib.hid (fun (X : World) (bc : Nat) (h : Pc w X x o b t a1 t.size c1 bc) => pc_does h HU.out hts2)
      have HT1 := Lib.hid (fun (X : World) (h : TrAt X b t) => told8 h HU.out HBD.out hts2)
      have HT2 := Lib.hid (fun (X : World) (bc : Nat) (h : TrAt X bc (step o t)) => told8 h (step_up HU.out) (step_bound HU.out HBD.out ho) (by have := step_size o t; omega))
      have HBK := Lib.hid (fun (X : World) (h : TrAt X b t) => back8 h HU.out HBD.out hts2)
      generalize step o t = t6 at *
      have hd : (decide (k < n) && decide (k < 300)) = false := by simp; omega
      clear HC HLO hts hlt
      have hk3 : k < n → ¬ k < 300 := by intro hkn3; simp at hd; exact fun hh => by have := hd hkn3; omega
      by_cases h1 : k < n
      all_goals
        first
          | (have h2 : ¬ k < 300 := hk3 h1
             clear hd hk3)
          | clear hd hk3
        go_wp2_with (first
          | (go_at_call 14; (with_reducible refine (HT1.out _ PP.ts.tree).mono ?_); rintro e w3 ⟨a3, c3, rfl, hp3, hb3⟩; have P3 := PP.later hb3; clear PP hb3)
          | (go_at_call 13; (with_reducible refine (same_any hp3 P3.row.pr).mono ?_); rintro e w4 ⟨rfl, hb4⟩; have P4 := P3.later hb4; clear P3 hb4 hp3)
          | (go_at_call 15; (with_reducible refine (pl_clone P4).mono ?_); rintro e w5 ⟨bc, rfl, P5⟩; obtain ⟨x0, x1, x2⟩ := P5.box; clear P4)
          | (go_at_call 10; (with_reducible refine (HD.out _ _ P5).mono ?_); rintro e w6 ⟨a6, c6, rfl, P6⟩; clear P5 x0 x1 x2)
          | (go_at_call 14; (with_reducible refine (HT2.out _ _ P6.tc).mono ?_); rintro e w7 ⟨a7, c7, rfl, hp7, hb7⟩; have P7 := P6.later hb7; clear P6 hb7)
          | (go_at_call 13; (with_reducible refine (same_any hp7 P7.rn).mono ?_); rintro e w8 ⟨rfl, hb8⟩; have P8 := P7.later hb8; clear P7 hb8 hp7)
          | (go_at_call 14; (with_reducible refine (HT1.out _ P8.tb).mono ?_); rintro e w9 ⟨a9, c9, rfl, hp9, hb9⟩; have P9 := P8.later hb9; clear P8 hb9)
          | (go_at_call 13; (with_reducible refine (same_any hp9 P9.rl).mono ?_); rintro e w10 ⟨rfl, hb10⟩; have P10 := P9.later hb10; clear P9 hb10 hp9)
          | (go_at_call 14; (with_reducible refine (HBK.out _ P10.tb).mono ?_); rintro e w11 ⟨a11, c11, rfl, hp11, hb11⟩; have P11 := P10.later hb11; clear P10 hb11))
        have HR1 := Lib.hid hp11.cells
        have HR2 := Lib.hid P11.rl.cells
        have hm1 := hp11.le
        have hm2 := hp11.most
        have hm3 := P11.rl.le
        have hm4 := P11.rl.most
        unfold maxLen at hm2 hm4
        have HLN := Lib.hid (T.size_toL t)
        have HBL := Lib.hid P11.below
        clear hp11 P11 HD HT1 HT2 HBK HU HBD
        generalize hm : t.size = m at *
        generalize t.toL = L at *
        clear hm
        go_loopw [16] (fun i wr => ∃ j nq : Nat, j ≤ m ∧ i = .int .i64 j ∧ wr = w11.drewN nq) (fun i _ => m - (intOf i).toNat)
        case atStart => exact ⟨0, 0, Nat.zero_le _, rfl, rfl⟩
        case round =>
          obtain ⟨j, nq, hj, rfl, rfl⟩ := hrel
          by_cases hjl : j < m
          · rcases HR1.out with ⟨_, h0⟩ | ⟨b1, o1, rfl, hc1⟩
            · omega
            rcases HR2.out with ⟨_, h0⟩ | ⟨b2, o2, rfl, hc2⟩
            · omega
            obtain ⟨g1, g2⟩ := hc1 j hjl
            obtain ⟨g3, g4⟩ := hc2 (m - 1 - j) (by omega)
            have hrv : L.reverse.getD j (0, 0) = L.getD (m - 1 - j) (0, 0) := by
              have hl := HLN.out
              simp only [List.getD, List.getElem?_reverse (show j < L.length by omega), hl]
            rw [hrv] at g1 g2
            generalize L.getD (m - 1 - j) (0, 0) = y at *
            clear hc1 hc2 hrv
            obtain ⟨y1, y2⟩ := y
            dsimp only at g1 g2 g3 g4
            have hj0 : (0 : Int) ≤ (j : Int) := by omega
            have hj1 : (j : Int) < (m : Int) := by omega
            have hj2 : (0 : Int) ≤ (m : Int) - 1 - (j : Int) := by omega
            have hj3 : (m : Int) - 1 - (j : Int) < (m : Int) := by omega
            have eqb := eq_pair y1 y2 y1 y2
            have eqg := eq_guard
            have t1 : (y1 == y1) = true := by simp
            have t2 : (y2 == y2) = true := by simp
            go_wp2_with fail
            go_quiet (fail)
            clear eqb eqg
            go_wp2
            go_roundw
            case rel => exact ⟨j + 1, _, by omega, by go_num, rfl⟩
            case measure => simp [intOf]; omega
          · have hbn := below_drewN w11 nq
            have HW : Hid (Below w.heap.size w (w11.drewN nq)) := Lib.hid (HBL.out.trans (hbn.mono HBL.out.size))
            go_wp2_with (go_at_call 8; (with_reducible refine (known_any _).mono ?_); rintro e w12 ⟨rfl, hB12⟩)
            go_ret
            exact ⟨rfl, by rw [← HX.out] at *; exact HW.out.trans (hB12.mono HW.out.size)⟩
end Go.Proofs.Ythganmlechikiab.av
