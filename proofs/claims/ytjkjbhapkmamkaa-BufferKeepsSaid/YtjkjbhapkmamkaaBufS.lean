/-
  Package buffer: Clone; the reference of layer 21.
-/
import Derived.Test.YtjkjbhapkmamkaaBufR
namespace Go.Proofs.Ytjkjbhapkmamkaa.bf
open Go.RowKit aid mem sp
attribute [local go_sem ↓] Go.wp_at_zero Go.wp_at_succ
set_option linter.unusedVariables false
set_option linter.unusedSimpArgs false

theorem own_empty (w : World) (base : Nat) (hb : base ≤ w.heap.size) : (w.alloc (.cells #[] 5)).ownsRow base 5 1 (.slice (some ⟨w.heap.size, 0, none⟩) 0 0) 0 [] :=
  ⟨rfl, .inr ⟨w.heap.size, 0, #[], rfl, hb, heap_alloc_new w _, Nat.le_refl _, by simp [maxLen], rfl, rfl⟩⟩
theorem BfAt.sla {w : World} {B : Nat} {g : Rg} {x : Bf} (h : BfAt w B g x) : ∃ R, SlA .u8 w (some ⟨g.b, 0, none⟩) x.most g.cap R ∧ Ring R x := by
  obtain ⟨h1, ⟨R, h2, h3⟩, h4, h5⟩ := h
  refine ⟨R, ⟨h3.len, h5.1, h5.2, (fun h => by cases h), fun h0 => ⟨g.b, 0, rfl, fun i hi => ?_⟩⟩, h3⟩
  have hl := h3.len
  rw [cell_of_row w g.b _ _ _ (0, 0) h2, List.getElem?_toArray, Nat.zero_add, List.getElem?_append_left (by rw [ints_len]; omega), ints, getD_map_some (by omega)]
def RetC (l : List Int) (n : Nat) (w : World) (e : Ending) (w' : World) : Prop := ∃ c cap' T, e = .returned (.slice (some ⟨c, 0, none⟩) n cap') ∧ w'.heap[c]? = some (.cells (ints .u8 l ++ T).toArray 5 (0, 0)) ∧ n ≤ cap' ∧ cap' ≤ maxLen ∧ Below w.heap.size w w' ∧ w.heap.size ≤ c
set_option maxHeartbeats 1000000 in
theorem sclone_any {w : World} {b : Addr} {n cap : Nat} {l : List Int} (h : SlA .u8 w (some b) n cap l) (hn : n ≤ 65536) : Calls Try.prog 21 #[.slice (some b) n cap] w (RetC l n w) := by
  obtain ⟨i0, hi, hz0, hz1, hz2⟩ := info_split info_u8
  have he : ∀ w : World, (binOp .eql 23 (.slice (some b) n cap) (.slice none 0 0)).run Try.prog w = .ok (.bool false) w := fun _ => rfl
  have hlen := h.len
  have HS := Lib.hid ((h.later (bal (.cells #[] 5))).src (P := Try.prog) Try.underlying23)
  have HO := Lib.hid (own_empty w w.heap.size (Nat.le_refl _))
  have hb := bal (w := w) (.cells #[] 5)
  go_enter Try.func21, Try.ntmps21
  go_wp2_with (at_builtin; go_must (refine wpList_append_any _ rfl (.tmp 5) (.tmp 6) 23 23 rfl w.heap.size 5 i0 (.int .u8 0) 1 Try.underlying23 hi hz0 hz1 hz2 rfl (.slice (some ⟨w.heap.size, 0, none⟩) 0 0) 0 [] rfl HO.out (.slice (some b) n cap) rfl n (ints .u8 l) HS.out (by unfold maxLen; omega) (by omega) (by simp) ?_); intro a' cap' w1 hown hgr hat)
  simp only [Nat.zero_add, List.nil_append] at hown ⊢
  go_ret
  have hbw := hb.trans (below_grown hgr (by simp) (fun k hk => by simp [Value.ownBlock] at hk; omega))
  have hll := hown.1
  rcases hown.2 with ⟨hv, _⟩ | ⟨g, cap2, cur, hv, hbg, hh, hnc, hm, hc, ht⟩
  · injection hv with h1 h2 h3
    subst h1 h3
    have : n = 0 := by omega
    subst this
    rcases hat with q | q <;> simp [Value.ownBlock] at q
  · injection hv with h1 h2 h3
    subst h1 h3
    refine ⟨g, cap', cur.toList.drop n, rfl, ?_, hnc, hm, hbw, hbg⟩
    rw [hh, ← ht, Nat.mul_one, List.take_append_drop]
set_option maxHeartbeats 1000000 in
theorem clone_any {w : World} {B : Nat} {g : Rg} {x : Bf} (h : BfAt w B g x) : Calls Try.prog 10 #[.pointer (some ⟨B, 0, none⟩)] w
    fun e w' => ∃ (C : Nat) (c : Rg), e = .returned (.pointer (some ⟨C, 0, none⟩)) ∧ BfAt w' C c x ∧ Below w.heap.size w w' ∧ ∀ b ∈ [C, c.b], w.heap.size ≤ b := by
  obtain ⟨R, hsl, hring⟩ := h.drew.sla
  have HC := Lib.hid (sclone_any hsl h.ok.m1)
  have HCS := Lib.hid (fun W (hb : Below w.drew.heap.size w.drew W) => (h.drew.later hb).cs)
  have HR := Lib.hid (show Ring R x ∧ Ok x from ⟨hring, h.ok⟩)
  obtain ⟨c0, c1, c2⟩ := h.cs
  clear h hsl hring
  unfold RetC at HC
  go_enter Try.func10, Try.ntmps10
  go_wp2_with fail
  go_region_held3 (fun w' => w'.cell? ⟨B, 0, none⟩ = some (.int .i64 (x.una : Int)) ∧ w'.cell? ⟨B, 1, none⟩ = some (.int .i64 ((x.una : Int) + (x.l.length : Int))) ∧ w'.cell? ⟨B, 2, none⟩ = some (.slice (some ⟨g.b, 0, none⟩) x.most g.cap)) (first | go_keep | with_reducible exact HCS.out _ (Below.refl _ _) | with_reducible exact HCS.out _ hb1)
    ((go_at_call 21; (with_reducible refine (HC.out).mono ?_); rintro e w1 ⟨c, cap', T, rfl, hrow, hn1, hn2, hb1, hge⟩))
  go_wp2_with fail
  go_ret
  have hb : Below w.heap.size w w1 := (Below.refl w.heap.size w).drew.trans hb1
  have hz : w.drew.heap.size = w.heap.size := rfl
  refine ⟨w1.heap.size, ⟨c, cap', T⟩, rfl, ⟨heap_alloc_new w1 _, ⟨R, ((bal (w := w1) _).block _ (lt_of_block hrow)).trans hrow, HR.out.1⟩, HR.out.2, ⟨hn1, hn2⟩⟩, hb.trans ((bal _).mono hb.size), fun b hb' => ?_⟩
  simp at hb'
  rcases hb' with rfl | rfl
  · exact hb.size
  · omega
/-! ### the document's -/
abbrev cellsR (x : Bf) (a : Option Addr) (n cap : Nat) : Array Value := #[.int .i64 (x.una : Int), .int .i64 (x.most : Int), .slice a n cap]
abbrev rV (x : Bf) (a : Option Addr) (n cap : Nat) : Value := .agg (cellsR x a n cap)
abbrev rO (x : Bf) (a : Option Addr) (n cap : Nat) : Obj := .cells (cellsR x a n cap) 34
abbrev zB : Bf := ⟨0, 0, []⟩
abbrev zO : Obj := .cells #[.int .i64 0, .int .i64 0, .slice none 0 0] 34
abbrev RRow (w : World) (a : Option Addr) (n cap : Nat) (l : List Int) : Prop := SlR w 5 1 a n cap (ints .u8 l)
theorem rrow_len {w : World} {a : Option Addr} {n cap : Nat} {l : List Int} (h : RRow w a n cap l) : l.length = n := by have := h.len; rw [ints_len] at this; omega
abbrev St (b : Nat) (x : Bf) (a : Option Addr) (n cap : Nat) (w : World) : Prop := w.cell? ⟨b, 0, none⟩ = some (.int .i64 (x.una : Int)) ∧ w.cell? ⟨b, 1, none⟩ = some (.int .i64 (x.most : Int)) ∧ w.cell? ⟨b, 2, none⟩ = some (.slice a n cap)
theorem st_of {w : World} {b : Nat} {x : Bf} {a : Option Addr} {n cap : Nat} (h : w.heap[b]? = some (rO x a n cap)) : St b x a n cap w := ⟨cofr h 0 _ rfl, cofr h 1 _ rfl, cofr h 2 _ rfl⟩
abbrev Fz (b : Nat) (w : World) : Prop := w.frozen? ⟨b, 0, none⟩ = false ∧ w.frozen? ⟨b, 1, none⟩ = false ∧ w.frozen? ⟨b, 2, none⟩ = false
theorem fz_of {w : World} {b : Nat} {x : Bf} {a : Option Addr} {n cap : Nat} (h : w.heap[b]? = some (rO x a n cap)) : Fz b w := ⟨fofr h 0, fofr h 1, fofr h 2⟩
abbrev put3 (b : Nat) (x : Bf) (a : Option Addr) (n cap : Nat) (W : World) : World := ((W.setCell ⟨b, 0, none⟩ (.int .i64 (x.una : Int))).setCell ⟨b, 1, none⟩ (.int .i64 (x.most : Int))).setCell ⟨b, 2, none⟩ (.slice a n cap)
theorem setr {w : World} {b i : Nat} {x x' : Bf} {a a' : Option Addr} {n cap n' cap' : Nat} (h : w.heap[b]? = some (rO x a n cap)) (u : Value) (hz : (cellsR x a n cap).setIfInBounds i u = cellsR x' a' n' cap') : (w.setCell ⟨b, i, none⟩ u).heap[b]? = some (rO x' a' n' cap') := by
  have this : (w.setCell ⟨b, i, none⟩ u).heap[b]? = _ := heap_setCell_same _ _ i _ _ u h
  rw [hz] at this
  exact this
theorem put3_at {b : Nat} {z : Bf} {a0 : Option Addr} {n0 c0 : Nat} {W : World} (h : W.heap[b]? = some (rO z a0 n0 c0)) (x : Bf) (a : Option Addr) (n cap : Nat) : (put3 b x a n cap W).heap[b]? = some (rO x a n cap) := by
  unfold put3
  have g0 : (W.setCell ⟨b, 0, none⟩ (.int .i64 (x.una : Int))).heap[b]? = some (rO ⟨x.una, z.most, z.l⟩ a0 n0 c0) := setr h _ rfl
  generalize W.setCell ⟨b, 0, none⟩ (.int .i64 (x.una : Int)) = W0 at *
  have g1 : (W0.setCell ⟨b, 1, none⟩ (.int .i64 (x.most : Int))).heap[b]? = some (rO ⟨x.una, x.most, z.l⟩ a0 n0 c0) := setr g0 _ rfl
  generalize W0.setCell ⟨b, 1, none⟩ (.int .i64 (x.most : Int)) = W1 at *
  exact setr g1 _ rfl
theorem put3_kept (b : Nat) (x : Bf) (a : Option Addr) (n cap : Nat) (W : World) : Kept [b] W (put3 b x a n cap W) :=
  (((Kept.refl [b] W).setCell (.inl (by simp)) _).setCell (.inl (by simp)) _).setCell (.inl (by simp)) _
theorem bal3 {w : World} (a b c : Obj) : Below w.heap.size w (((w.alloc a).alloc b).alloc c) := (((Below.refl _ _).alloc (Nat.le_refl _) _).alloc (by simp) _).alloc (by simp <;> omega) _
/-- what comes back of a call with a row -/
def RetA (x' : Bf) (v : Value) (S : List Nat) (w : World) (e : Ending) (w' : World) : Prop :=
  ∃ a' n' cap', e = .returned (.tuple #[rV x' a' n' cap', v]) ∧ RRow w' a' n' cap' x'.l ∧ Below w.heap.size w w' ∧ ∀ b ∈ blk a' cap', b ∈ S ∨ w.heap.size ≤ b
/-- the boxes of a call, the row -/
structure R2 (w : World) (x : Bf) (a : Option Addr) (n cap : Nat) (W : World) : Prop where
  b0 : W.heap[w.heap.size]? = some (rO x a n cap)
  rs : W.heap[w.heap.size + 1]? = some (rO zB none 0 0)
  row : RRow W a n cap x.l
  below : Below w.heap.size w W
theorem R2.later {w W W' : World} {x : Bf} {a : Option Addr} {n cap : Nat} (h : R2 w x a n cap W) (hb : Below W.heap.size W W') : R2 w x a n cap W' :=
  ⟨(hb.block _ (lt_of_block h.b0)).trans h.b0, (hb.block _ (lt_of_block h.rs)).trans h.rs, h.row.later hb, h.below.trans (hb.mono h.below.size)⟩
theorem r2_new {w : World} {x : Bf} {a : Option Addr} {n cap : Nat} (h : RRow w a n cap x.l) : R2 w x a n cap ((w.alloc (rO x a n cap)).alloc zO) := by
  have b1 := bal (w := w) (rO x a n cap)
  have y1 := heap_alloc_new w (rO x a n cap)
  have z1 : (w.alloc (rO x a n cap)).heap.size = w.heap.size + 1 := by simp
  have h1 := h.later b1
  generalize w.alloc (rO x a n cap) = w1 at *
  have b3 := bal (w := w1) zO
  have y4 := heap_alloc_new w1 zO
  rw [z1] at y4
  exact ⟨(b3.block _ (lt_of_block y1)).trans y1, y4, h1.later b3, b1.trans (b3.mono b1.size)⟩
/-- the end: the answer's box is written -/
def FinR (w : World) (x : Bf) (a : Option Addr) (n cap : Nat) (S : List Nat) (W : World) : Prop := W.heap[w.heap.size + 1]? = some (rO x a n cap) ∧ RRow W a n cap x.l ∧ Below w.heap.size w W ∧ ∀ b ∈ blk a cap, b ∈ S ∨ w.heap.size ≤ b
theorem rrow_typ {W : World} {a : Option Addr} {n cap : Nat} {l : List Int} (hr : RRow W a n cap l) {k : Nat} {cs : Array Value} {T : TypeId} (hb : W.heap[k]? = some (.cells cs T (0, 0))) (hT : T ≠ 5) : k ∉ blk a cap := by
  intro he
  obtain ⟨_, cur, hc⟩ := hr.lt k he
  rw [hb] at hc
  simp at hc
  exact hT hc.2
theorem nt : (34 : TypeId) ≠ 5 ∧ (34 : TypeId) ≠ 50 := by decide
theorem R2.fin {w W : World} {x : Bf} {a : Option Addr} {n cap : Nat} {S : List Nat} (h : R2 w x a n cap W) (hS : ∀ b ∈ blk a cap, b ∈ S ∨ w.heap.size ≤ b) : FinR w x a n cap S (put3 (w.heap.size + 1) x a n cap W) := by
  have hk := put3_kept (w.heap.size + 1) x a n cap W
  refine ⟨put3_at h.rs x a n cap, h.row.keep hk (fun b hb e => ?_), h.below.trans (hk.below (by simp) h.below.size), hS⟩
  simp at e
  subst e
  exact rrow_typ h.row h.rs nt.1 hb
/-- a field of the first box is written -/
theorem R2.put {w W : World} {x x' : Bf} {a a' : Option Addr} {n cap n' cap' : Nat} (h : R2 w x a n cap W) (i : Nat) (u : Value) (hz : (cellsR x a n cap).setIfInBounds i u = cellsR x' a' n' cap') (hr : RRow W a' n' cap' x'.l) : R2 w x' a' n' cap' (W.setCell ⟨w.heap.size, i, none⟩ u) := by
  have hk := kset W w.heap.size i u
  refine ⟨setr h.b0 u hz, hk.heap (by simp) h.rs, hr.keep hk (fun b hb e => ?_), h.below.trans (hk.below (by simp) h.below.size)⟩
  simp at e
  subst e
  exact rrow_typ hr h.b0 nt.1 hb
/-- from any index on -/
theorem row_from {w : World} {a : Option Addr} {n cap : Nat} {l : List Int} (h : RRow w a n cap l) (k : Nat) (hk : k ≤ n) :
    ∃ a', (∀ wx, (Instr.slice 23 (.slice a n cap) (some (.int .i64 (k : Int))) none none).run Try.prog wx = .ok (.slice a' (n - k) (cap - k)) wx) ∧ (∀ C, RRow C a n cap l → RRow C a' (n - k) (cap - k) (l.drop k)) ∧ ∀ b ∈ blk a' (cap - k), b ∈ blk a cap := by
  obtain ⟨i0, hi, hz0, hz1, hz2⟩ := info_split info_u8
  have hle := h.le
  have hlen := rrow_len h
  refine ⟨_, run_slice_from Try.prog 23 5 i0 Try.underlying23 hi hz1 a n cap k hk, fun C hC => ?_, fun b hb => ?_⟩
  · by_cases c : cap = k
    · rw [show n - k = 0 by omega, show cap - k = 0 by omega, List.drop_eq_nil_of_le (by omega)]
      exact SlR.sub0 _
    · rw [if_neg c]
      obtain ⟨g, off, _, rfl, _⟩ := hC.rest (by omega)
      have := hC.sub k n cap hk (Nat.le_refl _) hle (Nat.le_refl _) (by omega)
      simp only [Nat.mul_one, ints_take, ints_drop] at this
      rw [List.take_of_length_le (by omega)] at this
      simpa [addr_add] using this
  · by_cases c : cap = k
    · rw [show cap - k = 0 by omega] at hb
      simp [blk_zero] at hb
    · rw [if_neg c] at hb
      obtain ⟨g, off, _, rfl, _⟩ := h.rest (by omega)
      simp only [Option.map_some, addr_add] at hb
      rw [blk_some _ _ _ (by omega)] at hb ⊢
      exact hb
set_option maxHeartbeats 4000000 in
theorem rfree_any {w : World} {x : Bf} {a : Option Addr} {n cap : Nat} (h : RRow w a n cap x.l) (ho : Ok x) (t : Int) (ht : -9223372036854775808 ≤ t ∧ t ≤ 9223372036854775807) :
    Calls Try.prog 19 #[rV x a n cap, .int .i64 t] w (RetA (frX x t) (.int .i64 (frE x t)) (blk a cap) w) := by
  have hlen := rrow_len h
  have HR := Lib.hid (r2_new h)
  have hoe := ho.e; have hon := ho.n; have hom := ho.m1
  have hw1 : IntKind.i64.wrap ((x.una : Int) + (n : Int)) = (x.una : Int) + (n : Int) := IntWalk.i64_in _ (by omega)
  rcases frE_cases x t with ⟨he, h1⟩ | ⟨he, h1, h2⟩ | ⟨he, h1, h2⟩
  · have HX : Hid (frX x t = x) := Lib.hid (by unfold frX; rw [if_neg (by omega)])
    rw [he, HX.out]
    clear h he
    go_enter Try.func19, Try.ntmps19
    go_upto_region 1 with fail
    generalize (w.alloc (rO x a n cap)).alloc zO = W at *
    have HF := Lib.hid (HR.out.fin (S := blk a cap) (fun b hb => .inl hb))
    obtain ⟨r0, r1, r2⟩ := st_of HR.out.b0; obtain ⟨z0, z1, z2⟩ := st_of HR.out.rs; obtain ⟨f0, f1, f2⟩ := fz_of HR.out.rs
    obtain ⟨y0, y1, y2⟩ := st_of HF.out.1
    go_wp2_with fail
    exact bodyPost_ret (v := .tuple #[rV x a n cap, .int .i64 11]) (by simp [results, Try.results19, go_sem, y0, y1, y2]) rfl ⟨a, n, cap, rfl, HF.out.2⟩
  · have HX : Hid (frX x t = x) := Lib.hid (by unfold frX; rw [if_neg (by omega)])
    rw [he, HX.out]
    have h3 : ¬ t < (x.una : Int) := by omega
    rw [hlen] at h2
    clear h he
    go_enter Try.func19, Try.ntmps19
    go_upto_region 1 with fail
    generalize (w.alloc (rO x a n cap)).alloc zO = W at *
    have HF := Lib.hid (HR.out.fin (S := blk a cap) (fun b hb => .inl hb))
    obtain ⟨r0, r1, r2⟩ := st_of HR.out.b0; obtain ⟨z0, z1, z2⟩ := st_of HR.out.rs; obtain ⟨f0, f1, f2⟩ := fz_of HR.out.rs
    obtain ⟨y0, y1, y2⟩ := st_of HF.out.1
    go_wp2_with fail
    exact bodyPost_ret (v := .tuple #[rV x a n cap, .int .i64 12]) (by simp [results, Try.results19, go_sem, y0, y1, y2]) rfl ⟨a, n, cap, rfl, HF.out.2⟩
  · obtain ⟨T, rfl⟩ : ∃ T : Nat, t = (T : Int) := ⟨t.toNat, by omega⟩
    have hk : ((T : Int) - (x.una : Int)).toNat ≤ n := by omega
    have HX : Hid (frX x T = ⟨T, x.most, x.l.drop ((T : Int) - (x.una : Int)).toNat⟩) := Lib.hid (by unfold frX; rw [if_pos he, Int.toNat_natCast])
    rw [he, HX.out]
    obtain ⟨a', hsl, hrow, hbl⟩ := row_from h _ hk
    have hkk : ((((T : Int) - (x.una : Int)).toNat : Nat) : Int) = (T : Int) - (x.una : Int) := by omega
    rw [hkk] at hsl
    have hw2 : IntKind.i64.wrap ((T : Int) - (x.una : Int)) = (T : Int) - (x.una : Int) := IntWalk.i64_in _ (by omega)
    have h3 : ¬ (T : Int) < (x.una : Int) := by omega
    have h4 : ¬ (x.una : Int) + (n : Int) < (T : Int) := by omega
    have HROW := Lib.hid hrow
    have HBL := Lib.hid hbl
    clear h he hrow hbl
    generalize ((T : Int) - (x.una : Int)).toNat = k at *
    go_enter Try.func19, Try.ntmps19
    go_upto_region 1 with fail
    generalize (w.alloc (rO x a n cap)).alloc zO = W at *
    obtain ⟨r0, r1, r2⟩ := st_of HR.out.b0
    have g2 := (fz_of HR.out.b0).2.2
    have R' := HR.out.put (x' := ⟨x.una, x.most, x.l.drop k⟩) (a' := a') (n' := n - k) (cap' := cap - k) 2 (.slice a' (n - k) (cap - k)) rfl (HROW.out _ HR.out.row)
    go_upto_region 6 with fail
    clear r0 r1 r2 g2
    generalize W.setCell ⟨w.heap.size, 2, none⟩ (.slice a' (n - k) (cap - k)) = V at *
    obtain ⟨r0, r1, r2⟩ := st_of R'.b0
    have g0 := (fz_of R'.b0).1
    have R4 := R'.put (x' := ⟨T, x.most, x.l.drop k⟩) (a' := a') (n' := n - k) (cap' := cap - k) 0 (.int .i64 (T : Int)) rfl R'.row
    go_upto_region 7 with fail
    clear r0 r1 r2 g0
    generalize V.setCell ⟨w.heap.size, 0, none⟩ (.int .i64 (T : Int)) = U at *
    have HF := Lib.hid (R4.fin (S := blk a cap) (fun b hb => .inl (HBL.out b hb)))
    obtain ⟨r0, r1, r2⟩ := st_of R4.b0; obtain ⟨z0, z1, z2⟩ := st_of R4.rs; obtain ⟨f0, f1, f2⟩ := fz_of R4.rs
    clear R' R4
    obtain ⟨y0, y1, y2⟩ := st_of HF.out.1
    go_wp2_with fail
    exact bodyPost_ret (v := .tuple #[rV ⟨T, x.most, x.l.drop k⟩ a' (n - k) (cap - k), .int .i64 0]) (by simp [results, Try.results19, go_sem, y0, y1, y2]) rfl ⟨_, _, _, rfl, HF.out.2⟩
end Go.Proofs.Ytjkjbhapkmamkaa.bf
