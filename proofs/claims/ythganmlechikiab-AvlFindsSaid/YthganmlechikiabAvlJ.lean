/-
  Layer 8's law: keys about any key.
-/
import Derived.Test.YthganmlechikiabAvlV
import Derived.Test.YthganmlechikiabAvlK
import Derived.Sort.QuietIn
import Derived.Sort.CutIn
namespace Go.Proofs.Ythganmlechikiab.av
open Go.RowKit Go.Shelf aid mem rng
attribute [local go_sem] Oper.semAt_some
set_option linter.unusedVariables false

/-- what lies between two keys: m, r, x: the boxes of most, of the result, of the list -/
structure Fi (w0 w : World) (m r x : Nat) (most : Int) (b : Nat) (t : T) (a : Option Addr) (n cap : Nat) : Prop where
  ts : TS w0 w b t
  row : Row8 w0.heap.size w a n cap t.toL
  mb : w.heap[m]? = some (.cells #[.int .i64 most] 3 (0, 0))
  rb : w.heap[r]? = some (.cells #[.bool false] 4 (0, 0))
  xb : w.heap[x]? = some (.cells #[.slice a n cap] 28 (0, 0))
  lm : w0.heap.size ≤ m
  lr : w0.heap.size ≤ r
  lx : w0.heap.size ≤ x
theorem Fi.later {w0 w w' : World} {m r x : Nat} {most : Int} {b : Nat} {t : T} {a : Option Addr} {n cap : Nat} (h : Fi w0 w m r x most b t a n cap) (hb : Below w.heap.size w w') : Fi w0 w' m r x most b t a n cap :=
  ⟨h.ts.later hb, h.row.later hb, (hb.block m (lt_of_block h.mb)).trans h.mb, (hb.block r (lt_of_block h.rb)).trans h.rb, (hb.block x (lt_of_block h.xb)).trans h.xb, h.lm, h.lr, h.lx⟩
theorem Fi.n {w0 w : World} {m r x : Nat} {most : Int} {b : Nat} {t : T} {a : Option Addr} {n cap : Nat} (h : Fi w0 w m r x most b t a n cap) : n = t.size := by
  have := h.row.pr.len; rw [T.size_toL] at this; exact this.symm
/-- the tree has one key more; the list not yet -/
structure Fj (w0 w : World) (m r x : Nat) (most : Int) (b : Nat) (t t' : T) (a : Option Addr) (n cap : Nat) : Prop where
  ts : TS w0 w b t'
  row : Row8 w0.heap.size w a n cap t.toL
  mb : w.heap[m]? = some (.cells #[.int .i64 most] 3 (0, 0))
  rb : w.heap[r]? = some (.cells #[.bool false] 4 (0, 0))
  xb : w.heap[x]? = some (.cells #[.slice a n cap] 28 (0, 0))
  lm : w0.heap.size ≤ m
  lr : w0.heap.size ≤ r
  lx : w0.heap.size ≤ x
theorem other_block {w w' : World} {b k : Nat} {t : T} {cs : Array Value} {ty : TypeId} (ht : TrAt w b t) (hk : Kept [b] w w') (h : w.heap[k]? = some (.cells cs ty (0, 0))) (hty : ty ≠ 58) : w'.heap[k]? = some (.cells cs ty (0, 0)) := by
  obtain ⟨q, h1, _⟩ := ht
  refine hk.heap ?_ h
  simp only [List.mem_singleton]
  rintro rfl
  rw [h1] at h
  simp at h
  exact hty h.2.symm
theorem Fi.put {w0 w w' : World} {m r x : Nat} {most : Int} {b : Nat} {t t' : T} {a : Option Addr} {n cap : Nat} (h : Fi w0 w m r x most b t a n cap) (ht : TS w0 w' b t') (hk : Kept [b] w w') : Fj w0 w' m r x most b t t' a n cap :=
  ⟨ht, h.row.keep h.ts.tree hk, other_block h.ts.tree hk h.mb (by decide), other_block h.ts.tree hk h.rb (by decide), other_block h.ts.tree hk h.xb (by decide), h.lm, h.lr, h.lx⟩
theorem Fj.later {w0 w w' : World} {m r x : Nat} {most : Int} {b : Nat} {t t' : T} {a : Option Addr} {n cap : Nat} (h : Fj w0 w m r x most b t t' a n cap) (hb : Below w.heap.size w w') : Fj w0 w' m r x most b t t' a n cap :=
  ⟨h.ts.later hb, h.row.later hb, (hb.block m (lt_of_block h.mb)).trans h.mb, (hb.block r (lt_of_block h.rb)).trans h.rb, (hb.block x (lt_of_block h.xb)).trans h.xb, h.lm, h.lr, h.lx⟩
/-- the list, too -/
theorem Fj.set {w0 w w' : World} {m r x : Nat} {most : Int} {b : Nat} {t t' : T} {a a' : Option Addr} {n n' cap cap' : Nat} (h : Fj w0 w m r x most b t t' a n cap) (hb : Below w.heap.size w w') (hr : Row8 w0.heap.size w' a' n' cap' t'.toL) :
    Fi w0 (w'.setCell ⟨x, 0, none⟩ (.slice a' n' cap')) m r x most b t' a' n' cap' := by
  have g := h.later hb
  have hk : Kept [x] w' (w'.setCell ⟨x, 0, none⟩ (.slice a' n' cap')) := (Kept.refl [x] w').setCell (.inl (by simp)) _
  have hx : (w'.setCell ⟨x, 0, none⟩ (.slice a' n' cap')).heap[x]? = some (.cells #[.slice a' n' cap'] 28 (0, 0)) := (heap_setCell_same w' x 0 _ _ _ g.xb).trans rfl
  have nb : ∀ {k : Nat} {cs : Array Value} {ty : TypeId}, w'.heap[k]? = some (.cells cs ty (0, 0)) → ty ≠ 28 → (w'.setCell ⟨x, 0, none⟩ (.slice a' n' cap')).heap[k]? = some (.cells cs ty (0, 0)) := fun {k cs ty} hc hty => by
    refine hk.heap ?_ hc
    simp only [List.mem_singleton]
    rintro rfl
    rw [g.xb] at hc
    simp at hc
    exact hty hc.2.symm
  refine ⟨⟨?_, g.ts.below.trans (hk.below (by simpa using g.lx) g.ts.below.size), g.ts.le⟩, ?_, nb g.mb (by decide), nb g.rb (by decide), hx, g.lm, g.lr, g.lx⟩
  · obtain ⟨q, h1, h2⟩ := g.ts.tree
    exact ⟨q, nb h1 (by decide), h2.keepT (fun k cs hc => (nb hc (by decide)).trans hc.symm)⟩
  · refine own_steps hr (fun k o hk2 ho => hk.heap ?_ ho)
    simp only [List.mem_singleton]
    rintro rfl
    rcases hr.2 with ⟨he, _⟩ | ⟨gg, cap2, cur, he, _, hgg, _⟩
    · rw [he] at hk2; cases hk2
    · rw [he] at hk2
      cases hk2
      rw [g.xb] at hgg
      simp at hgg

theorem tup_form (o : Option (Int × Int)) : ∃ k v ok, tupO o = .tuple #[.int .i64 k, .int .i64 v, .bool ok] := by
  cases o with
  | none => exact ⟨0, 0, false, rfl⟩
  | some x => exact ⟨x.1, x.2, true, rfl⟩
theorem is_any {w : World} {a : Option Addr} {n cap : Nat} {l : Ps} (h : PrA w a n cap l) (i k v : Int) (ok : Bool) (e : tupO (atL l i) = .tuple #[.int .i64 k, .int .i64 v, .bool ok]) (hn : n ≤ 1000000) :
    Calls Try.prog 23 #[.slice a n cap, .int .i64 i, .int .i64 k, .int .i64 v, .bool ok] w fun e w' => e = .returned (.bool true) ∧ w = w' := by
  cases ho : atL l i with
  | none =>
    rw [ho] at e
    unfold tupO at e
    injection e with e
    simp at e
    obtain ⟨rfl, rfl, rfl⟩ := e
    exact is_none h i ho hn
  | some x =>
    rw [ho] at e
    unfold tupO at e
    injection e with e
    simp at e
    obtain ⟨rfl, rfl, rfl⟩ := e
    exact is_some h i ho hn
/-- with the rank's box -/
structure Fk (w0 w : World) (m r x y : Nat) (most : Int) (rk : Nat) (b : Nat) (t : T) (a : Option Addr) (n cap : Nat) : Prop where
  fi : Fi w0 w m r x most b t a n cap
  yb : w.heap[y]? = some (.cells #[.int .i64 (rk : Int)] 3 (0, 0))
theorem Fk.later {w0 w w' : World} {m r x y : Nat} {most : Int} {rk : Nat} {b : Nat} {t : T} {a : Option Addr} {n cap : Nat} (h : Fk w0 w m r x y most rk b t a n cap) (hb : Below w.heap.size w w') : Fk w0 w' m r x y most rk b t a n cap :=
  ⟨h.fi.later hb, (hb.block y (lt_of_block h.yb)).trans h.yb⟩
theorem Fk.cells {w0 w : World} {m r x y : Nat} {most : Int} {rk : Nat} {b : Nat} {t : T} {a : Option Addr} {n cap : Nat} (h : Fk w0 w m r x y most rk b t a n cap) :
    w.cell? ⟨x, 0, none⟩ = some (.slice a n cap) ∧ w.cell? ⟨y, 0, none⟩ = some (.int .i64 (rk : Int)) ∧ w.cell? ⟨m, 0, none⟩ = some (.int .i64 most) :=
  ⟨(cell_of_row w x 0 _ _ (0, 0) h.fi.xb).trans rfl, (cell_of_row w y 0 _ _ (0, 0) h.yb).trans rfl, (cell_of_row w m 0 _ _ (0, 0) h.fi.mb).trans rfl⟩

theorem PrA.steps {W W' : World} {a : Option Addr} {n cap : Nat} {l : Ps} {K : Nat → Prop} (h : PrA W a n cap l) (hs : rng.Steps K W W') (hK : ∀ b off, a = some ⟨b, off, none⟩ → 0 < n → K b) : PrA W' a n cap l :=
  ⟨h.len, h.le, h.most, h.cells.imp id (fun ⟨b, off, ha, hc⟩ => ⟨b, off, ha, fun i hi => ⟨hs.cell (hK b off ha (by omega)) (hc i hi).1, hs.cell (hK b off ha (by omega)) (hc i hi).2⟩⟩)⟩
/-- between two rounds; q: the box of the count -/
structure FI (w0 : World) (m r x y q : Nat) (most : Int) (rk : Nat) (a : Option Addr) (n cap : Nat) (L : Ps) (pre : Ps) (C : Nat → Prop) (W : World) : Prop where
  qb : W.heap[q]? = some (.cells #[.int .i64 (pre.length : Int)] 3 (0, 0))
  rb : W.heap[r]? = some (.cells #[.bool false] 4 (0, 0))
  mb : W.heap[m]? = some (.cells #[.int .i64 most] 3 (0, 0))
  xb : W.heap[x]? = some (.cells #[.slice a n cap] 28 (0, 0))
  yb : W.heap[y]? = some (.cells #[.int .i64 (rk : Int)] 3 (0, 0))
  pr : PrA W a n cap L
  cq : C q
  cr : C r
  below : Below w0.heap.size w0 W
theorem fi_bears (w0 : World) (m r x y q : Nat) (most : Int) (rk : Nat) (a : Option Addr) (n cap : Nat) (L : Ps) (z : Nat) (hz : w0.heap.size ≤ z) (hm : m < z) (hx : x < z) (hy : y < z) (ha : ∀ b off, a = some ⟨b, off, none⟩ → 0 < n → b < z) : Bears z (FI w0 m r x y q most rk a n cap L) := by
  intro s C X Y h hzz hs
  exact ⟨hs.heap (.inr h.cq) h.qb, hs.heap (.inr h.cr) h.rb, hs.heap (.inl hm) h.mb, hs.heap (.inl hx) h.xb, hs.heap (.inl hy) h.yb, h.pr.steps hs (fun b off e hn => .inl (ha b off e hn)), h.cq, h.cr, h.below.trans (hs.below (by omega) (fun k hk => .inl (by omega)))⟩
/-- a round left by 'return' -/
def FX (w0 : World) (r : Nat) (c : Code) (pre : Ps) (C : Nat → Prop) (W : World) : Prop := isRet c ∧ W.heap[r]? = some (.cells #[.bool true] 4 (0, 0)) ∧ C r ∧ Below w0.heap.size w0 W
theorem fx_bears (w0 : World) (r z : Nat) (hz : w0.heap.size ≤ z) (c : Code) : Bears z (FX w0 r c) := by
  rintro s C X Y ⟨h1, h2, h3, h4⟩ hzz hs
  exact ⟨h1, hs.heap (.inr h3) h2, h3, h4.trans (hs.below (by omega) (fun k hk => .inl (by omega)))⟩
/-- the count goes up -/
theorem fi_next {w0 : World} {m r x y q : Nat} {most : Int} {rk : Nat} {a : Option Addr} {n cap : Nat} {L : Ps} {pre : Ps} {C : Nat → Prop} {X : World} (h : FI w0 m r x y q most rk a n cap L pre C X) (p : Int × Int)
    (hq : w0.heap.size ≤ q) (ne : q ≠ m ∧ q ≠ x ∧ q ≠ y ∧ q ≠ r) (ha : ∀ b off, a = some ⟨b, off, none⟩ → 0 < n → b ≠ q) :
    Round C X C (X.setCell ⟨q, 0, none⟩ (.int .i64 ((pre.length : Int) + 1))) ∧ FI w0 m r x y q most rk a n cap L (pre ++ [p]) C (X.setCell ⟨q, 0, none⟩ (.int .i64 ((pre.length : Int) + 1))) := by
  have hk : Kept [q] X (X.setCell ⟨q, 0, none⟩ (.int .i64 ((pre.length : Int) + 1))) := (Kept.refl [q] X).setCell (.inl (by simp)) _
  have hs : rng.Steps (fun k => k ≠ q) X (X.setCell ⟨q, 0, none⟩ (.int .i64 ((pre.length : Int) + 1))) := rng.Steps.of_kept hk _ (by simp)
  refine ⟨Round.of_kept hk (by simpa using h.cq), ⟨?_, hs.heap (Ne.symm ne.2.2.2) h.rb, hs.heap (Ne.symm ne.1) h.mb, hs.heap (Ne.symm ne.2.1) h.xb, hs.heap (Ne.symm ne.2.2.1) h.yb, h.pr.steps hs ha, h.cq, h.cr, h.below.trans (hk.below (by simpa using hq) h.below.size)⟩⟩
  refine (heap_setCell_same X q 0 _ _ _ h.qb).trans ?_
  rw [List.length_append]
  rfl
theorem PrA.lt {W : World} {a : Option Addr} {n cap : Nat} {l : Ps} (h : PrA W a n cap l) {b off : Nat} (e : a = some ⟨b, off, none⟩) (hn : 0 < n) : b < W.heap.size := by
  rcases h.cells with ⟨h0, _⟩ | ⟨b', off', he, hc⟩
  · rw [e] at h0; cases h0
  · rw [e] at he
    injection he with he
    injection he with h1 h2
    subst h1 h2
    exact World.block_lt_of_cell? W _ (hc 0 hn).1
theorem prefix_get {α : Type} {pre l : List α} {x d : α} (h : pre ++ [x] <+: l) : l.getD pre.length d = x ∧ pre.length < l.length := by
  obtain ⟨r, rfl⟩ := h
  constructor
  · simp [List.getD]
  · simp
theorem drop_at {l : Ps} {rk j : Nat} : (l.drop rk).getD j (0, 0) = l.getD (rk + j) (0, 0) := by simp [List.getD]
/-- the answer is given -/
theorem fx_next {w0 : World} {r : Nat} {C : Nat → Prop} {X Y : World} {v : Value} (hb : Below X.heap.size X Y) (hr : X.heap[r]? = some (.cells #[v] 4 (0, 0))) (cr : C r) (h : Below w0.heap.size w0 X) (hw : w0.heap.size ≤ r) (pre : Ps) :
    Round C X C (Y.setCell ⟨r, 0, none⟩ (.bool true)) ∧ FX w0 r .ret pre C (Y.setCell ⟨r, 0, none⟩ (.bool true)) := by
  have hk : Kept [r] Y (Y.setCell ⟨r, 0, none⟩ (.bool true)) := (Kept.refl [r] Y).setCell (.inl (by simp)) _
  have hY := (hb.block r (lt_of_block hr)).trans hr
  have hB := h.trans (hb.mono h.size)
  exact ⟨(Round.of_below hb C).trans (Round.of_kept hk (by simpa using cr)), rfl, (heap_setCell_same Y r 0 _ _ _ hY).trans rfl, cr, hB.trans (hk.below (by simpa using hw) hB.size)⟩

set_option maxRecDepth 100000 in
set_option maxHeartbeats 4000000 in
theorem walk_AvlFinds (w : World) (a : Option Addr) (n cap : Nat) (z : List Int) (hz : IsRow .i64 w a n cap z) (key : Int) (hkey : -9223372036854775808 ≤ key ∧ key ≤ 9223372036854775807) (most : Int) (hmost : -9223372036854775808 ≤ most ∧ most ≤ 9223372036854775807) :
    Calls Try.prog 4 #[.slice a n cap, .int .i64 key, .int .i64 most] w fun e w' => e = .returned (.bool true) ∧ Below w.heap.size w w' := by
  have HEL := Lib.hid hz.elems
  clear hz
  refine (callsIn_wide (n := 6)).1 ?_
  refine callsIn_of_wp_marks Try.func4 rfl trivial ?_ rfl
  simp only [Try.ntmps4, List.size_toArray, List.length_cons, List.length_nil, Nat.reduceAdd, Nat.reduceSub, Array.replicate_succ, Array.replicate_zero, List.push_toArray, List.append_toArray, List.nil_append, List.cons_append]
  have hfn : ∀ f, Fence.wide.fn f := fun _ => trivial
  gi_wp2_with (first
    | (gi_at_call 8; refine (callsIn_wide.2 (known_any _)).mono ?_; rintro e w1 ⟨rfl, hB1⟩)
    | (gi_at_call 9; refine (callsIn_wide.2 (new_any _)).mono ?_; rintro e w2 ⟨rfl, ht2, hB2⟩))
  have F0 : Fi w (w2.alloc (.cells #[.slice none 0 0] 28)) w.heap.size (w.heap.size + 1) w2.heap.size most w1.heap.size .nil none 0 0 := by
    have ba : Below w.heap.size w ((w.alloc (.cells #[.int .i64 most] 3)).alloc (.cells #[.bool false] 4)) := (bal' _).alloc (by simp) _
    have hB1' := hB1.size
    simp only [World.size_alloc] at hB1 hB1'
    have h1 : ((w.alloc (.cells #[.int .i64 most] 3)).alloc (.cells #[.bool false] 4)).heap[w.heap.size]? = some (.cells #[.int .i64 most] 3 (0, 0)) := ((bal' _).block _ (by simp)).trans (heap_alloc_new w _)
    have h2 : ((w.alloc (.cells #[.int .i64 most] 3)).alloc (.cells #[.bool false] 4)).heap[w.heap.size + 1]? = some (.cells #[.bool false] 4 (0, 0)) := by
      have := heap_alloc_new (w.alloc (.cells #[.int .i64 most] 3)) (.cells #[.bool false] 4)
      rwa [World.size_alloc] at this
    have b1 : Below w.heap.size w w1 := ba.trans (hB1.mono (by omega))
    have b2 : Below w.heap.size w w2 := b1.trans (hB2.mono b1.size)
    have b3 := bal' (w := w2) (.cells #[.slice none 0 0] 28)
    have hs2 := hB2.size
    refine ⟨⟨ht2.later b3, b2.trans (b3.mono b2.size), b1.size⟩, row8_nil _ _, ?_, ?_, heap_alloc_new w2 _, Nat.le_refl _, by omega, b2.size⟩
    · exact (b3.block _ (by omega)).trans ((hB2.block _ (by omega)).trans ((hB1.block _ (by omega)).trans h1))
    · exact (b3.block _ (by omega)).trans ((hB2.block _ (by omega)).trans ((hB1.block _ (by omega)).trans h2))
  clear ht2 hB1 hB2
  generalize w2.alloc (.cells #[.slice none 0 0] 28) = w3 at *
  generalize w2.heap.size = bl at *
  generalize w1.heap.size = bt at *
  generalize w.heap.size + 1 = br at *
  generalize hbm : w.heap.size = bm at *
  have HBM := Lib.hid hbm
  clear hbm
  gi_loopw [9] (fun i wr => ∃ (k : Nat) (t : T) (a1 : Option Addr) (n1 c1 : Nat), i = .int .i64 k ∧ k ≤ n ∧ k ≤ 200 ∧ t.size ≤ k ∧ Hid (T.Up t.toL) ∧ Fi w wr bm br bl most bt t a1 n1 c1) (fun i _ => n - (intOf i).toNat)
  case atStart => exact ⟨0, .nil, none, 0, 0, rfl, Nat.zero_le _, by omega, Nat.zero_le _, Lib.hid List.Pairwise.nil, F0⟩
  case round =>
    clear F0
    obtain ⟨k, t, a1, n1, c1, rfl, hkn, hk, hts, HU, FF⟩ := hrel
    obtain ⟨wo, rfl⟩ : ∃ wo : World, wo = wr := ⟨_, rfl⟩
    have hn1 := FF.n
    subst hn1
    by_cases hlt : k < n ∧ k < 200
    · obtain ⟨h1, h2⟩ := hlt
      rcases HEL.out with h0 | ⟨B, off, rfl, hn9, hlz, hc, hwf⟩
      · omega
      have cz := cw FF.ts.below (hc k h1)
      have HCZ := Lib.hid (hc k h1)
      clear hc hwf
      generalize (z.take n).getD k 0 = q at *
      have HPT := Lib.hid (put_ts q (k : Int) FF.ts (by omega))
      have HUS := Lib.hid (ins_up (t := t) q (k : Int) HU.out)
      have hsz := T.ins_size q (k : Int) t
      have HL := Lib.hid (T.ins_toL q (k : Int) t HU.out)
      generalize T.ins q (k : Int) t = t2 at *
      have HPL := Lib.hid (fun (X : World) (h : Row8 w.heap.size X a1 t.size c1 t.toL) (hX : w.heap.size ≤ X.heap.size) => by have := put8 h HU.out q (k : Int) (by omega) hX; rwa [← HL.out] at this)
      gi_wp2_with (gi_at_call 16; refine (callsIn_wide.2 HPT.out).mono ?_; rintro e w4 ⟨rfl, ht4, hk4⟩; have F4 := FF.put ht4 hk4; clear ht4 hk4 HPT FF cz)
      have F5 := F4.later (Below.refl w4.heap.size w4).drew
      have cz5 : w4.drew.cell? ⟨B, off + k, none⟩ = some (.int .i64 q) := cw F5.ts.below HCZ.out
      have cx5 : w4.drew.cell? ⟨bl, 0, none⟩ = some (.slice a1 t.size c1) := (cell_of_row _ bl 0 _ _ (0, 0) F5.xb).trans rfl
      have hmo : Try.prog.follows .mixedOrders = true := by kernel_rfl
      have HPP := Lib.hid (HPL.out _ F5.row F5.ts.below.size)
      have F5' := Lib.hid F5
      clear HPL F4 F5
      refine Code.wpIn_mono NoPanic.imp ?_
      gi_region_with_o (gi_at_call 17; refine (callsIn_wide.2 HPP.out).mono ?_; rintro e w6 ⟨a2, n2, c2, rfl, hr6, hb6⟩; have F6 := Lib.hid (F5'.out.set hb6 hr6); have cx6 := ck hb6 cx5; have fx6 : w6.frozen? ⟨bl, 0, none⟩ = false := (by have := (F5'.out.later hb6).xb; simp [World.frozen?, this]); clear hr6)
      all_goals
        simp only [NoPanic]
        gi_wp2
        go_roundw
        case rel => exact ⟨k + 1, t2, a2, n2, c2, by go_num, by omega, by omega, by omega, HUS, F6.out⟩
        case measure => simp [intOf]; omega
    · have hts2 : t.size ≤ 1000 := by omega
      have HRK := Lib.hid (rrank_any FF.row.pr HU.out key (by omega))
      have cx := (cell_of_row wo bl 0 _ _ (0, 0) FF.xb).trans rfl
      have hd : (decide (k < n) && decide (k < 200)) = false := by simp; omega
      clear HEL hlt
      have hk3 : k < n → ¬ k < 200 := by intro hkn3; simp at hd; exact fun hh => by have := hd hkn3; omega
      by_cases h1 : k < n
      all_goals
        first
          | (have h2 : ¬ k < 200 := hk3 h1
             clear hd hk3)
          | clear hd hk3
        gi_upto_region 11 with (gi_at_call 18; refine (callsIn_wide.2 HRK.out).mono ?_; rintro e w' ⟨rfl, rfl⟩)
        have hbk := bal' (w := wo) (.cells #[.int .i64 (rkL t.toL key : Int)] 3)
        have K0 : Fk w (wo.alloc (.cells #[.int .i64 (rkL t.toL key : Int)] 3)) bm br bl wo.heap.size most (rkL t.toL key) bt t a1 t.size c1 := ⟨FF.later hbk, heap_alloc_new wo _⟩
        have HLS := Lib.hid (T.size_toL t)
        have hrk := rk_le t.toL key
        rw [T.size_toL] at hrk
        have HFL := Lib.hid (fl_at (key := key) HU.out)
        have HCE := Lib.hid (ce_at (key := key) HU.out)
        have HHA := Lib.hid (fun (X : World) (h : PrA X a1 t.size c1 t.toL) => rhas_any h HU.out key (by omega))
        have HTF := Lib.hid (fun (X : World) (h : TrAt X bt t) => tfloor_any h.o key HU.out)
        have HTC := Lib.hid (fun (X : World) (h : TrAt X bt t) => tceil_any h.o key HU.out)
        have HTA := Lib.hid (fun (X : World) (h : TrAt X bt t) => tat_any h.o most hmost (by omega))
        have HTR := Lib.hid (fun (X : World) (h : TrAt X bt t) => trank_any h.o key HU.out (by omega))
        have HIS := Lib.hid (fun (X : World) (h : PrA X a1 t.size c1 t.toL) (i k v : Int) (ok : Bool) (e : tupO (atL t.toL i) = .tuple #[.int .i64 k, .int .i64 v, .bool ok]) => is_any h i k v ok e (by omega))
        have HFR := Lib.hid (fun (X : World) (h : TrAt X bt t) (A : Nat → Prop) (hA : Far X A) => by have := from_any h.o key HU.out A hA; rwa [ge_drop HU.out] at this)
        clear HRK cx FF hbk
        generalize wo.alloc (.cells #[.int .i64 (rkL t.toL key : Int)] 3) = X0 at *
        generalize wo.heap.size = bn at *
        generalize rkL t.toL key = rk at *
        generalize flL t.toL key = ofl at *
        generalize ceL t.toL key = oce at *
        obtain ⟨k1, v1, b1, e1⟩ := tup_form ofl
        obtain ⟨k2, v2, b2, e2⟩ := tup_form oce
        obtain ⟨k3, v3, b3, e3⟩ := tup_form (atL t.toL most)
        have E1 := Lib.hid e1
        have E2 := Lib.hid e2
        have E3 := Lib.hid e3
        clear e1 e2 e3
        obtain ⟨cx, cy, cm⟩ := K0.cells
        cases hz : hasL t.toL key
        all_goals
          have HZ := Lib.hid hz
          clear hz
          gi_upto_region 17 with (first
            | (gi_at_call 19; refine (callsIn_wide.2 (HHA.out _ K0.fi.row.pr)).mono ?_; rw [HZ.out]; rintro e w' ⟨rfl, rfl⟩)
            | (gi_at_call 20; refine (callsIn_wide.2 (HTF.out _ K0.fi.ts.tree)).mono ?_; rw [E1.out]; rintro e w5 ⟨rfl, hb5⟩; have K1 := K0.later hb5; obtain ⟨cx1, cy1, cm1⟩ := K1.cells; clear K0 hb5 cx cy cm)
            | (gi_at_call 21; refine (callsIn_wide.2 (HTC.out _ K1.fi.ts.tree)).mono ?_; rw [E2.out]; rintro e w6 ⟨rfl, hb6⟩; have K2 := K1.later hb6; obtain ⟨cx2, cy2, cm2⟩ := K2.cells; clear K1 hb6 cx1 cy1 cm1)
            | (gi_at_call 22; refine (callsIn_wide.2 (HTA.out _ K2.fi.ts.tree)).mono ?_; rw [E3.out]; rintro e w7 ⟨rfl, hb7⟩; have K3 := K2.later hb7; obtain ⟨cx3, cy3, cm3⟩ := K3.cells; clear K2 hb7 cx2 cy2 cm2))
          first
            | (have HE1 : Hid (tupO (atL t.toL ((rk : Int) - 1)) = .tuple #[.int .i64 k1, .int .i64 v1, .bool b1]) := Lib.hid (by have h := HFL.out; rw [HZ.out] at h; simp only [Bool.false_eq_true, if_false] at h; rw [← h]; exact E1.out))
            | (have HE1 : Hid (tupO (atL t.toL (rk : Int)) = .tuple #[.int .i64 k1, .int .i64 v1, .bool b1]) := Lib.hid (by have h := HFL.out; rw [HZ.out] at h; simp only [if_true] at h; rw [← h]; exact E1.out))
          have HE2 : Hid (tupO (atL t.toL (rk : Int)) = .tuple #[.int .i64 k2, .int .i64 v2, .bool b2]) := Lib.hid (by rw [← HCE.out]; exact E2.out)
          have HPR := Lib.hid (fun (q : Nat) => K3.fi.row.pr.later (below_drewN w7 q))
          have HTT := Lib.hid (fun (q : Nat) => K3.fi.ts.tree.later (below_drewN w7 q))
          gi_quiet ((first
            | (gi_at_call 23; with_reducible exact callsIn_wide.2 ((HIS.out _ (HPR.out _) _ _ _ _ HE1.out).mono (fun _ _ h => ⟨h.1, _, h.2.symm⟩)))
            | (gi_at_call 23; with_reducible exact callsIn_wide.2 ((HIS.out _ (HPR.out _) _ _ _ _ HE2.out).mono (fun _ _ h => ⟨h.1, _, h.2.symm⟩)))
            | (gi_at_call 23; with_reducible exact callsIn_wide.2 ((HIS.out _ (HPR.out _) _ _ _ _ E3.out).mono (fun _ _ h => ⟨h.1, _, h.2.symm⟩)))
            | (gi_at_call 24; with_reducible exact callsIn_wide.2 ((HTR.out _ (HTT.out _)).mono (fun _ _ h => ⟨h.1, _, h.2.symm⟩)))))
          have K4 := K3.later (below_drewN w7 nq)
          clear HPR HTT HIS HTR HTA HTC HTF HHA HE1 HE2 E1 E2 E3 HFL HCE K3 cx3 cy3 cm3
          generalize w7.drewN nq = Y at *
          obtain ⟨cx4, cy4, cm4⟩ := K4.cells
          have K5 := K4.later (bal' (.cells #[.int .i64 0] 3))
          have kb5 := heap_alloc_new Y (.cells #[.int .i64 0] 3)
          have hfar : Far (Y.alloc (.cells #[.int .i64 0] 3)) (fun q => q = Y.heap.size ∨ q = br) := by
            rintro q (rfl | rfl)
            · refine ⟨by simp, fun cs e => ?_⟩
              rw [kb5] at e
              simp at e
            · refine ⟨lt_of_block K5.fi.rb, fun cs e => ?_⟩
              rw [K5.fi.rb] at e
              simp at e
          have HFF := Lib.hid (HFR.out _ K5.fi.ts.tree _ hfar)
          have hYl := K4.fi.ts.below.size
          have hbrY := lt_of_block K4.fi.rb
          have hbmY := lt_of_block K4.fi.mb
          have hblY := lt_of_block K4.fi.xb
          have hbnY := lt_of_block K4.yb
          have HAY := Lib.hid (fun b off (e : a1 = some ⟨b, off, none⟩) (hn : 0 < t.size) => K4.fi.row.pr.lt e hn)
          have hlr := K4.fi.lr
          have HK5 := Lib.hid K5
          have HKB := Lib.hid kb5
          clear hfar HFR K4 K5 kb5
          gi_wp2_with (gi_at_call 25; refine (callsIn_wide.2 HFF.out).mono ?_; rintro e w9 ⟨lb, rfl, hseq, hb9⟩; have HS9 := Lib.hid hseq; clear hseq)
          have hs9 := hb9.size
          rw [World.size_alloc] at hs9
          have K6 := HK5.out.later hb9
          have kb9 := (hb9.block Y.heap.size (by simp)).trans HKB.out
          have HFI : Hid (FI w bm br bl bn Y.heap.size most rk a1 t.size c1 t.toL [] (fun k => k = Y.heap.size ∨ k = br) w9) := Lib.hid ⟨kb9, K6.fi.rb, K6.fi.mb, K6.fi.xb, K6.yb, K6.fi.row.pr, .inl rfl, .inr rfl, K6.fi.ts.below⟩
          have HBS := Lib.hid (fi_bears w bm br bl bn Y.heap.size most rk a1 t.size c1 t.toL w9.heap.size (by omega) (by omega) (by omega) (by omega) (fun b off e hn => by have := HAY.out b off e hn; omega))
          clear K6 kb9 HK5 HKB HFF
          generalize hkb : Y.heap.size = kb at *
          have HKBY := Lib.hid hkb
          clear hkb
          refine wpIn_rangeF (fun (x : Int × Int) (t : Array Value) => (((t.setIfInBounds 116 (.int .i64 x.1)).setIfInBounds 117 (.int .i64 x.2)).setIfInBounds 22 (.int .i64 x.1)).setIfInBounds 23 (.int .i64 x.2)) (gf := 49) (lb := lb) (L := t.toL.drop rk) (A := fun k => k = kb ∨ k = br) (w0 := w9) (encs := kvE) rfl eg49 HS9.out (Below.refl _ _) (fun _ => rfl)
            (FI w bm br bl bn kb most rk a1 t.size c1 t.toL) (FX w br) (fun k => k = kb ∨ k = br) ?hc0 HBS.out (fun c => fx_bears w br _ (by omega) c) HFI.out ?assign ?body ?done ?stop
          case hc0 => rintro k (rfl | rfl); exact ⟨.inl (.inl rfl), by omega⟩; exact ⟨.inl (.inr rfl), by omega⟩
          case assign =>
            intro l x X K hK
            gi_wp2
            exact hK
          case body =>
            rintro l pre x C X FF hp hcb hz
            obtain ⟨hg1, hg2⟩ := prefix_get (d := ((0 : Int), (0 : Int))) hp
            rw [drop_at] at hg1
            rw [List.length_drop, HLS.out] at hg2
            have hidx : rk + pre.length < t.size := by omega
            have hle := FF.pr.le
            rcases FF.pr.cells with ⟨_, h0⟩ | ⟨b0, off0, rfl, hc⟩
            · omega
            obtain ⟨g0, g1⟩ := hc (rk + pre.length) hidx
            rw [hg1] at g0 g1
            have hbk : ∀ b off, (some (⟨b0, off0, none⟩ : Addr)) = some ⟨b, off, none⟩ → 0 < t.size → b ≠ kb := fun b off e hn => by have := HAY.out b off e hn; omega
            have N := fi_next FF x (by rw [HBM.out]; omega) ⟨by omega, by omega, by omega, by omega⟩ hbk
            have qk := (cell_of_row X kb 0 _ _ (0, 0) FF.qb).trans rfl
            have fk : X.frozen? ⟨kb, 0, none⟩ = false := by simp [World.frozen?, FF.qb]
            have qx := (cell_of_row X bl 0 _ _ (0, 0) FF.xb).trans rfl
            have qy := (cell_of_row X bn 0 _ _ (0, 0) FF.yb).trans rfl
            have e0 := (cell_of_row _ kb 0 _ _ (0, 0) N.2.qb).trans rfl
            have e1 := (cell_of_row _ bm 0 _ _ (0, 0) N.2.mb).trans rfl
            rw [List.length_append, List.length_singleton] at e0
            have HFX := Lib.hid (fun (Y : World) (hb : Below (X.setCell ⟨kb, 0, none⟩ (.int .i64 ((pre.length : Int) + 1))).heap.size (X.setCell ⟨kb, 0, none⟩ (.int .i64 ((pre.length : Int) + 1))) Y) => fx_next (w0 := w) hb N.2.rb N.2.cr N.2.below hlr (pre ++ [x]))
            have HRB := Lib.hid N.2.rb
            have QM := Lib.hid ((cell_of_row X bm 0 _ _ (0, 0) FF.mb).trans rfl)
            have HN := Lib.hid N
            generalize pre.length = j at *
            have hX : w.heap.size ≤ X.heap.size := FF.below.size
            clear N FF hp hcb hz hc hg1 hg2 hbk HS9 HFI HBS HAY HLS HU hb9
            obtain ⟨x1, x2⟩ := x
            dsimp only at g0 g1
            have eqb := eq_pair x1 x2 x1 x2
            have eqg := eq_guard
            have t1 : (x1 == x1) = true := by simp
            have t2 : (x2 == x2) = true := by simp
            have qm : X.cell? ⟨bm, 0, none⟩ = some (.int .i64 most) := QM.out
            have nkm : kb ≠ bm := by omega
            have nmk : bm ≠ kb := by omega
            clear QM
            by_cases hmm : (j : Int) + 1 = most
            · have tm : ((j : Int) + 1 == most) = true := by simpa using hmm
              clear hmm
              gi_wp2
              refine (CallsIn.inRound l (callsIn_wide.2 (known_any _))).mono ?_
              rintro e w12 ⟨rfl, hB12⟩
              have r12 := (hB12.block br (lt_of_block HRB.out)).trans HRB.out
              have c12 := (cell_of_row w12 br 0 _ _ (0, 0) r12).trans rfl
              have f12 : w12.frozen? ⟨br, 0, none⟩ = false := by simp [World.frozen?, r12]
              have HFF := Lib.hid (HFX.out _ hB12)
              clear HFX r12 hB12
              gi_wp2
              exact ⟨C, HN.out.1.trans HFF.out.1, HFF.out.2⟩
            · have tm : ((j : Int) + 1 == most) = false := by simpa using hmm
              clear hmm
              gi_wp2
              exact ⟨C, HN.out.1, HN.out.2⟩
          case done =>
            rintro D C X hD hCD FF hK
            have hlen : (t.toL.drop rk).length = t.size - rk := by rw [List.length_drop, HLS.out]
            have hqb := FF.qb
            rw [hlen] at hqb
            have qk := (cell_of_row X kb 0 _ _ (0, 0) hqb).trans rfl
            have qx := (cell_of_row X bl 0 _ _ (0, 0) FF.xb).trans rfl
            have qy := (cell_of_row X bn 0 _ _ (0, 0) FF.yb).trans rfl
            have HRB := Lib.hid FF.rb
            have HBL := Lib.hid FF.below
            have HK := Lib.hid hK
            have hDb : br < D := by omega
            have hq0 : (rk : Int) + ((t.size - rk : Nat) : Int) = (t.size : Int) := by omega
            have tq : ((rk : Int) + ((t.size - rk : Nat) : Int) == (t.size : Int)) = true := by simpa using hq0
            have hm1 : ((t.size - rk : Nat) : Int) ≤ 1000 := by omega
            have hm0 : 0 ≤ ((t.size - rk : Nat) : Int) := by omega
            generalize ((t.size - rk : Nat) : Int) = jj at *
            clear FF hqb hlen HS9 HFI HBS HAY HLS HU hb9 hK hq0
            gi_wp2_with (gi_at_call 8; refine (callsIn_wide.2 (known_any _)).mono ?_; rintro e w12 ⟨rfl, hB12⟩; have r12 := (hB12.block br (lt_of_block HRB.out)).trans HRB.out; have c12 := (cell_of_row w12 br 0 _ _ (0, 0) r12).trans rfl; have f12 : w12.frozen? ⟨br, 0, none⟩ = false := (by simp [World.frozen?, r12]); have HB12 := Lib.hid hB12; have HR12 := Lib.hid r12; clear r12 hB12)
            have hk12 : (w12.setCell ⟨br, 0, none⟩ (.bool true)).heap[D]? = some (.deferred (some [])) := (Below.heap_setCell w12 ⟨br, 0, none⟩ _ D (by simp; omega)).trans ((HB12.out.block D (lt_of_block HK.out)).trans HK.out)
            have hr12 : (w12.setCell ⟨br, 0, none⟩ (.bool true)).heap[br]? = some (.cells #[.bool true] 4 (0, 0)) := (heap_setCell_same w12 br 0 _ _ _ HR12.out).trans rfl
            have hr13 : ((w12.setCell ⟨br, 0, none⟩ (.bool true)).putObj D (.deferred none)).heap[br]? = some (.cells #[.bool true] 4 (0, 0)) := (World.putObj_heap_other (by omega)).trans hr12
            have cr13 := (cell_of_row _ br 0 _ _ (0, 0) hr13).trans rfl
            refine ⟨by simp, .inl ⟨_, _, rfl, run_takeDeferred hk12, ?_⟩⟩
            have b12 := HBL.out.trans (HB12.out.mono HBL.out.size)
            have b13 := b12.trans (((Kept.refl [br] w12).setCell (p := ⟨br, 0, none⟩) (.inl (by simp)) (.bool true)).below (B := w.heap.size) (by simpa using hlr) b12.size)
            have b14 := b13.trans ((rng.Steps.putObj (fun q => q < w.heap.size) (w12.setCell ⟨br, 0, none⟩ (.bool true)) D (.deferred none) (by omega)).below (n := w.heap.size) b13.size (fun _ h => h))
            exact ⟨.bool true, by simp [results, Try.results4, go_sem, cr13], rfl, b14⟩
          case stop =>
            rintro D c pre C X hD hCD ⟨rfl, h2, h3, h4⟩ hK
            have hDb : br < D := by omega
            have hr13 : (X.putObj D (.deferred none)).heap[br]? = some (.cells #[.bool true] 4 (0, 0)) := (World.putObj_heap_other (by omega)).trans h2
            have cr13 := (cell_of_row _ br 0 _ _ (0, 0) hr13).trans rfl
            have b14 := h4.trans ((rng.Steps.putObj (fun q => q < w.heap.size) X D (.deferred none) (by omega)).below (n := w.heap.size) h4.size (fun _ h => h))
            have HK := Lib.hid hK
            have HB14 := Lib.hid b14
            clear h2 h4 hK b14 HS9 HFI HBS HAY HLS HU hb9 hr13
            gi_wp2
            refine ⟨by simp, .inl ⟨_, _, rfl, run_takeDeferred HK.out, ?_⟩⟩
            exact ⟨.bool true, by simp [results, Try.results4, go_sem, cr13], rfl, HB14.out⟩
end Go.Proofs.Ythganmlechikiab.av
