/-
  Package runs: a set in memory; all, Len, place, behind, check.
-/
import Derived.Test.YtgjkbejlfclpoaaSpnE
import Derived.Test.YtgjkbejlfclpoaaKp
import Derived.Test.YtgjkbejlfclpoaaRunZ
import Derived.Shelf.Abstract
namespace Go.Proofs.Ytgjkbejlfclpoaa.rn
open Go.RowKit aid mem sp
attribute [local go_sem ↓] Go.wp_at_zero Go.wp_at_succ
set_option linter.unusedVariables false

theorem cofr {w : World} {B : Nat} {cs : Array Value} {t : TypeId} (h : w.heap[B]? = some (.cells cs t (0, 0))) (i : Nat) (v : Value) (hv : cs[i]? = some v) : w.cell? ⟨B, i, none⟩ = some v := (cell_of_row w B i _ _ (0, 0) h).trans hv
theorem fofr {w : World} {B : Nat} {cs : Array Value} {t : TypeId} (h : w.heap[B]? = some (.cells cs t (0, 0))) (i : Nat) : w.frozen? ⟨B, i, none⟩ = false := by simp [World.frozen?, h]
theorem kcell {w w' : World} {p : Addr} {v : Value} (hb : Below w.heap.size w w') (h : w.cell? p = some v) : w'.cell? p = some v := (hb.cell (World.block_lt_of_cell? w _ h)).trans h
theorem spTake (l : List Sp) : ∀ k, (spCells l).take (k * 2) = spCells (l.take k) := by
  induction l with
  | nil => intro k; simp [spCells]
  | cons x l ih =>
    intro k
    cases k with
    | zero => simp [spCells]
    | succ k =>
      rw [show (k + 1) * 2 = k * 2 + 1 + 1 from by omega, List.take_succ_cons]
      show .int .i64 x.1 :: List.take (k * 2 + 1) (.int .i64 x.2 :: spCells l) = _
      rw [List.take_succ_cons, ih k]
      rfl
theorem spDrop (l : List Sp) : ∀ k, (spCells l).drop (k * 2) = spCells (l.drop k) := by
  induction l with
  | nil => intro k; simp [spCells]
  | cons x l ih =>
    intro k
    cases k with
    | zero => simp
    | succ k =>
      rw [show (k + 1) * 2 = k * 2 + 1 + 1 from by omega]
      show List.drop (k * 2 + 1 + 1) (.int .i64 x.1 :: .int .i64 x.2 :: spCells l) = _
      rw [List.drop_succ_cons, List.drop_succ_cons, ih k]
      rfl
/-- block B holds a set -/
structure RnAt (w : World) (B : Nat) (a : Option Addr) (n cap : Nat) (l : List Sp) : Prop where
  hdr : w.heap[B]? = some (.cells #[.slice a n cap] 56 (0, 0))
  row : SlR w 24 2 a n cap (spCells l)
theorem row_len {w : World} {a : Option Addr} {n cap : Nat} {l : List Sp} (h : SlR w 24 2 a n cap (spCells l)) : l.length = n := by have := h.len; rw [spCells_len] at this; omega
theorem row_cells {w : World} {a : Option Addr} {n cap : Nat} {l : List Sp} (h : SlR w 24 2 a n cap (spCells l)) (h0 : 0 < n) : ∃ g off, a = some ⟨g, off, none⟩ ∧ ∀ i, i < n → w.cell? ⟨g, off + i * 2, none⟩ = some (.int .i64 (l.getD i (0, 0)).1) ∧ w.cell? ⟨g, off + i * 2 + 1, none⟩ = some (.int .i64 (l.getD i (0, 0)).2) := by
  obtain ⟨g, off, rfl, hc⟩ := h.cell (by have := h.le; omega)
  refine ⟨g, off, rfl, fun i hi => ?_⟩
  obtain ⟨e0, e1⟩ := spCells_get l i (by rw [row_len h]; exact hi)
  exact ⟨(hc (i * 2) (by omega)).trans e0, by rw [Nat.add_assoc]; exact (hc (i * 2 + 1) (by omega)).trans e1⟩
theorem RnAt.later {w w' : World} {B : Nat} {a : Option Addr} {n cap : Nat} {l : List Sp} (h : RnAt w B a n cap l) (hb : Below w.heap.size w w') : RnAt w' B a n cap l := ⟨(hb.block B (lt_of_block h.hdr)).trans h.hdr, h.row.later hb⟩
/-- a set, or none -/
def Rv (w : World) (v : Value) (a : Option Addr) (n cap : Nat) (l : List Sp) : Prop := (v = .pointer none ∧ a = none ∧ n = 0 ∧ cap = 0 ∧ l = []) ∨ ∃ B, v = .pointer (some ⟨B, 0, none⟩) ∧ RnAt w B a n cap l
theorem RnAt.rv {w : World} {B : Nat} {a : Option Addr} {n cap : Nat} {l : List Sp} (h : RnAt w B a n cap l) : Rv w (.pointer (some ⟨B, 0, none⟩)) a n cap l := .inr ⟨B, rfl, h⟩
theorem rv_nil (w : World) : Rv w (.pointer none) none 0 0 [] := .inl ⟨rfl, rfl, rfl, rfl, rfl⟩
theorem Rv.row {w : World} {v : Value} {a : Option Addr} {n cap : Nat} {l : List Sp} (h : Rv w v a n cap l) : SlR w 24 2 a n cap (spCells l) := by
  rcases h with ⟨_, rfl, rfl, rfl, rfl⟩ | ⟨B, _, h⟩
  · exact SlR.nil w _ 2
  · exact h.row
theorem Rv.later {w w' : World} {v : Value} {a : Option Addr} {n cap : Nat} {l : List Sp} (h : Rv w v a n cap l) (hb : Below w.heap.size w w') : Rv w' v a n cap l := by
  rcases h with h | ⟨B, e, h⟩
  · exact .inl h
  · exact .inr ⟨B, e, h.later hb⟩
theorem Rv.ptr {w : World} {v : Value} {a : Option Addr} {n cap : Nat} {l : List Sp} (h : Rv w v a n cap l) : ∃ p, v = .pointer p := by
  rcases h with ⟨rfl, _⟩ | ⟨B, rfl, h⟩
  · exact ⟨_, rfl⟩
  · exact ⟨_, rfl⟩
theorem all_any {w : World} {v : Value} {a : Option Addr} {n cap : Nat} {l : List Sp} (h : Rv w v a n cap l) : Calls Try.prog 33 #[v] w fun e w' => e = .returned (.slice a n cap) ∧ w = w' := by
  rcases h with ⟨rfl, rfl, rfl, rfl, rfl⟩ | ⟨B, rfl, h⟩
  · go_enter Try.func33, Try.ntmps33
    go_wp2
    go_ret
    exact ⟨rfl, rfl⟩
  · have c0 := cofr h.hdr 0 _ rfl
    go_enter Try.func33, Try.ntmps33
    go_wp2
    go_ret
    exact ⟨rfl, rfl⟩
theorem len_any' {w : World} {v : Value} {a : Option Addr} {n cap : Nat} {l : List Sp} (h : Rv w v a n cap l) : Calls Try.prog 10 #[v] w fun e w' => e = .returned (.int .i64 n) ∧ w = w' := by
  have HA := Lib.hid (all_any h)
  go_enter Try.func10, Try.ntmps10
  go_wp2_with (go_at_call 33; refine HA.out.mono ?_; rintro e w' ⟨rfl, rfl⟩)
  go_ret
  exact ⟨rfl, rfl⟩

set_option maxHeartbeats 2000000 in
theorem search_any {w : World} (g : Nat) (cb : Array Value) (n : Nat) (p : Nat → Bool) (eg : ∀ args w, (callFunc g args).run Try.prog w = .ok (.enter g args) w) (hn : n < 4611686018427387904)
    (hf : ∀ (W : World), Below w.heap.size w W → ∀ i : Nat, i < n → Calls Try.prog g (#[.int .i64 i] ++ cb) W fun e w' => e = .returned (.bool (p i)) ∧ Below W.heap.size W w')
    (hm : ∀ a b, a ≤ b → b < n → p a = true → p b = true) :
    Calls Try.prog 63 #[.int .i64 n, .func (.func g) #[] cb] w fun e w' => ∃ r : Nat, e = .returned (.int .i64 r) ∧ Found p n r ∧ Below w.heap.size w w' := by
  have HF := Lib.hid hf
  have HM := Lib.hid hm
  clear hf hm
  go_enter Try.func63, Try.ntmps63
  go_wp2
  go_loopw [5, 6] (fun s5 s6 wr => ∃ lo hi : Nat, s5 = .int .i64 lo ∧ s6 = .int .i64 hi ∧ lo ≤ hi ∧ hi ≤ n ∧ Below w.heap.size w wr ∧ Hid ((∀ t, t < lo → p t = false) ∧ (∀ t, hi ≤ t → t < n → p t = true))) (fun s5 s6 _ => (intOf s6).toNat - (intOf s5).toNat)
  case atStart => exact ⟨0, n, rfl, rfl, Nat.zero_le _, Nat.le_refl _, Below.refl _ _, Lib.hid ⟨fun t ht => by omega, fun t h1 h2 => by omega⟩⟩
  case round =>
    obtain ⟨lo, hi, rfl, rfl, hlh, hin, hb, HI⟩ := hrel
    by_cases hlt : lo < hi
    · have hc := HF.out wr hb ((lo + hi) / 2) (by omega)
      rw [show (((lo + hi) / 2 : Nat) : Int) = ((lo : Int) + (hi : Int)) / 2 by omega] at hc
      cases hp : p ((lo + hi) / 2) <;> rw [hp] at hc
      · have HP := Lib.hid hp
        clear hp
        go_wp2_with (go_at_fn g; refine hc.mono ?_; rintro e w' ⟨rfl, hb3⟩)
        go_roundw
        case measure => simp [intOf]; omega
        case rel => exact ⟨(lo + hi) / 2 + 1, hi, by rw [show ((lo : Int) + (hi : Int)) / 2 + 1 = (((lo + hi) / 2 + 1 : Nat) : Int) by omega], rfl, by omega, hin, hb.trans (hb3.mono hb.size), Lib.hid ⟨fun t ht => (by
            cases h : p t with
            | false => rfl
            | true => have := HM.out t ((lo + hi) / 2) (by omega) (by omega) h; rw [HP.out] at this; cases this), HI.out.2⟩⟩
      · have HP := Lib.hid hp
        clear hp
        go_wp2_with (go_at_fn g; refine hc.mono ?_; rintro e w' ⟨rfl, hb3⟩)
        go_roundw
        case measure => simp [intOf]; omega
        case rel => exact ⟨lo, (lo + hi) / 2, rfl, by rw [show ((lo : Int) + (hi : Int)) / 2 = (((lo + hi) / 2 : Nat) : Int) by omega], by omega, by omega, hb.trans (hb3.mono hb.size), Lib.hid ⟨HI.out.1, fun t ht htn => HM.out ((lo + hi) / 2) t ht htn HP.out⟩⟩
    · obtain rfl : hi = lo := by omega
      go_wp2
      go_ret
      exact ⟨hi, rfl, ⟨hin, HI.out.1, HI.out.2⟩, hb⟩

set_option maxHeartbeats 1000000 in
theorem place1_any {W : World} {X Y gf : Nat} {cb : Array Value} {a : Option Addr} {n cap : Nat} {l : List Sp} (q : Sp → Bool) (hrow : SlR W 24 2 a n cap (spCells l)) (eg : ∀ args w, (callFunc gf args).run Try.prog w = .ok (.enter gf args) w)
    (b0 : W.cell? ⟨X, 0, none⟩ = some (.func (.func gf) #[] cb)) (b1 : W.cell? ⟨Y, 0, none⟩ = some (.slice a n cap)) (hf : ∀ W2, Below W.heap.size W W2 → ∀ x ∈ l, Calls Try.prog gf (#[spV x] ++ cb) W2 (RetB (q x) W2)) (i : Nat) (hi : i < n) :
    Calls Try.prog 64 (#[.int .i64 i] ++ #[.pointer (some ⟨X, 0, none⟩), .pointer (some ⟨Y, 0, none⟩)]) W fun e w' => e = .returned (.bool (q (l.getD i (0, 0)))) ∧ Below W.heap.size W w' := by
  have hlen := row_len hrow
  obtain ⟨g, off, rfl, hc⟩ := row_cells hrow (by omega)
  obtain ⟨m0, m1⟩ := hc i hi
  have hle := hrow.le
  have hmost := hrow.most
  unfold maxLen at hmost
  have HW := Lib.hid (fun W2 (hW : Below W.heap.size W W2) => hf W2 hW (l.getD i (0, 0)) (getD_mem (by omega)))
  clear hc hrow hf
  generalize l.getD i (0, 0) = m at *
  obtain ⟨qm, hqm⟩ : ∃ qm, q m = qm := ⟨_, rfl⟩
  rw [hqm] at HW ⊢
  clear hqm
  go_enter Try.func64, Try.ntmps64
  go_wp2_with fail
  go_region_held3 (fun w' => w'.cell? ⟨X, 0, none⟩ = some (.func (.func gf) #[] cb) ∧ w'.cell? ⟨Y, 0, none⟩ = some (.slice (some ⟨g, off, none⟩) n cap) ∧ w'.cell? ⟨g, off + i * 2, none⟩ = some (.int .i64 m.1) ∧ w'.cell? ⟨g, off + i * 2 + 1, none⟩ = some (.int .i64 m.2))
    (first | go_keep | exact ⟨kcell hb1 b0, kcell hb1 b1, kcell hb1 m0, kcell hb1 m1⟩)
    ((go_at_fn gf; (with_reducible refine (HW.out _ (Below.refl _ _).drew).mono ?_); rintro e w1 ⟨rfl, hb1⟩; replace hb1 := (Below.refl W.heap.size W).drew.trans hb1))
  go_wp2
  go_ret
  exact ⟨rfl, hb1⟩
theorem eg_place1 : ∀ args w, (callFunc 64 args).run Try.prog w = .ok (.enter 64 args) w := enters_of Try.func64 (by kernel_rfl) rfl
/-- a place is found -/
def RetN (r : Nat) (w : World) (e : Ending) (w' : World) : Prop := e = .returned (.int .i64 r) ∧ Below w.heap.size w w'
set_option maxHeartbeats 2000000 in
theorem place_any {w : World} {v : Value} {gf : Nat} {cb : Array Value} {a : Option Addr} {n cap : Nat} {l : List Sp} (q : Sp → Bool) (h : Rv w v a n cap l) (eg : ∀ args w, (callFunc gf args).run Try.prog w = .ok (.enter gf args) w)
    (hn : n < 4611686018427387904) (hf : ∀ W2, Below w.heap.size w W2 → ∀ x ∈ l, Calls Try.prog gf (#[spV x] ++ cb) W2 (RetB (q x) W2)) (hm : ∀ x y, x < y → y < n → q (l.getD x (0, 0)) = true → q (l.getD y (0, 0)) = true) :
    Calls Try.prog 46 #[v, .func (.func gf) #[] cb] w (RetN (plc q l) w) := by
  obtain ⟨p, rfl⟩ := h.ptr
  obtain ⟨W1, hW1⟩ : ∃ W1, W1 = w.alloc (.cells #[.func (.func gf) #[] cb] 57) := ⟨_, rfl⟩
  have hb1 : Below w.heap.size w W1 := by rw [hW1]; exact bal _
  have x1 : W1.heap[w.heap.size]? = some (.cells #[.func (.func gf) #[] cb] 57 (0, 0)) := by rw [hW1]; exact heap_alloc_new w _
  have hz1 : W1.heap.size = w.heap.size + 1 := by rw [hW1]; simp
  obtain ⟨W0, hW0⟩ : ∃ W0, W0 = W1.alloc (.cells #[.slice a n cap] 28) := ⟨_, rfl⟩
  have hb0 : Below W1.heap.size W1 W0 := by rw [hW0]; exact bal _
  have x0 : W0.heap[w.heap.size]? = some (.cells #[.func (.func gf) #[] cb] 57 (0, 0)) := (hb0.block _ (by omega)).trans x1
  have y0 : W0.heap[W1.heap.size]? = some (.cells #[.slice a n cap] 28 (0, 0)) := by rw [hW0]; exact heap_alloc_new W1 _
  have hbw : Below w.heap.size w W0 := hb1.trans (hb0.mono hb1.size)
  have HA := Lib.hid (all_any (h.later hb1))
  have c0 := cofr x0 0 _ rfl
  have d0 := cofr y0 0 _ rfl
  have HS := Lib.hid (search_any (w := W0) 64 #[.pointer (some ⟨w.heap.size, 0, none⟩), .pointer (some ⟨W1.heap.size, 0, none⟩)] n (fun i => q (l.getD i (0, 0))) eg_place1 hn
    (fun W2 hW2 i hi => place1_any q (h.later (hbw.trans (hW2.mono hbw.size))).row eg (kcell hW2 c0) (kcell hW2 d0) (fun W3 hW3 x hx => hf W3 (hbw.trans ((hW2.trans (hW3.mono hW2.size)).mono hbw.size)) x hx) i hi)
    (fun x y hxy hy hx => by
      by_cases he : x = y
      · subst he; exact hx
      · exact hm x y (by omega) hy hx))
  have HB := Lib.hid hbw
  have hlen := row_len h.row
  have HP := Lib.hid (plc_found (q := q) (l := l) (by rw [hlen]; exact hm))
  rw [hlen] at HP
  clear hlen
  clear hf hm h x0 x1 y0 hb0 hb1 hbw c0
  go_enter Try.func46, Try.ntmps46
  go_wp2_with (first
    | (go_at_call 33; rw [← hW1]; (with_reducible refine HA.out.mono ?_); rintro e w' ⟨rfl, rfl⟩)
    | (go_at_call 63; rw [← hW1, ← hW0, ← hz1]; go_must (with_reducible refine HS.out.mono ?_); rintro e w3 ⟨r, rfl, hfr, hb3⟩))
  go_ret
  exact ⟨by rw [hfr.one HP.out]; rfl, HB.out.trans (hb3.mono HB.out.size)⟩
/-! ### the tests of places -/
theorem enters1 : ∀ args w, (callFunc 57 args).run Try.prog w = .ok (.enter 57 args) w := enters_of Try.func57 (by kernel_rfl) rfl
theorem enters2 : ∀ args w, (callFunc 47 args).run Try.prog w = .ok (.enter 47 args) w := enters_of Try.func47 (by kernel_rfl) rfl
theorem enters3 : ∀ args w, (callFunc 48 args).run Try.prog w = .ok (.enter 48 args) w := enters_of Try.func48 (by kernel_rfl) rfl
theorem enters4 : ∀ args w, (callFunc 56 args).run Try.prog w = .ok (.enter 56 args) w := enters_of Try.func56 (by kernel_rfl) rfl
theorem behind1_any {w : World} {X : Nat} {o : Int} (b0 : w.cell? ⟨X, 0, none⟩ = some (.int .i64 o)) (x : Sp) : Calls Try.prog 57 (#[spV x] ++ #[.pointer (some ⟨X, 0, none⟩)]) w (RetB (decide (o < x.2)) w) := by
  have c0 := kcell (bal (w := w) (.cells #[.int .i64 x.1, .int .i64 x.2] 24)) b0
  have s0 := sp_new w x
  have c1 := s0.c1
  go_enter Try.func57, Try.ntmps57
  go_wp2
  go_ret
  exact ⟨rfl, bal _⟩
theorem add1_any {w : World} {X : Nat} {s : Sp} (b0 : SpAt w X s) (x : Sp) : Calls Try.prog 47 (#[spV x] ++ #[.pointer (some ⟨X, 0, none⟩)]) w (RetB (decide (s.1 ≤ x.2)) w) := by
  have b1 := b0.later (bal (w := w) (.cells #[.int .i64 x.1, .int .i64 x.2] 24))
  have c0 := b1.c0; have c1 := b1.c1
  have s0 := sp_new w x
  have d0 := s0.c0; have d1 := s0.c1
  go_enter Try.func47, Try.ntmps47
  go_wp2
  go_ret
  exact ⟨rfl, bal _⟩
theorem add2_any {w : World} {X : Nat} {s : Sp} (b0 : SpAt w X s) (x : Sp) : Calls Try.prog 48 (#[spV x] ++ #[.pointer (some ⟨X, 0, none⟩)]) w (RetB (decide (s.2 < x.1)) w) := by
  have b1 := b0.later (bal (w := w) (.cells #[.int .i64 x.1, .int .i64 x.2] 24))
  have c0 := b1.c0; have c1 := b1.c1
  have s0 := sp_new w x
  have d0 := s0.c0; have d1 := s0.c1
  go_enter Try.func48, Try.ntmps48
  go_wp2
  go_ret
  exact ⟨rfl, bal _⟩
theorem rem1_any {w : World} {X : Nat} {s : Sp} (b0 : SpAt w X s) (x : Sp) : Calls Try.prog 56 (#[spV x] ++ #[.pointer (some ⟨X, 0, none⟩)]) w (RetB (decide (s.2 ≤ x.1)) w) := by
  have b1 := b0.later (bal (w := w) (.cells #[.int .i64 x.1, .int .i64 x.2] 24))
  have c0 := b1.c0; have c1 := b1.c1
  have s0 := sp_new w x
  have d0 := s0.c0; have d1 := s0.c1
  go_enter Try.func56, Try.ntmps56
  go_wp2
  go_ret
  exact ⟨rfl, bal _⟩
theorem behind_any {w : World} {v : Value} {a : Option Addr} {n cap : Nat} {l : List Sp} (h : Rv w v a n cap l) (hl : Rn l) (hn : n < 4611686018427387904) (o : Int) : Calls Try.prog 34 #[v, .int .i64 o] w (RetN (bhd l o) w) := by
  have hlen := row_len h.row
  obtain ⟨W1, hW1⟩ : ∃ W1, W1 = w.alloc (.cells #[.int .i64 o] 3) := ⟨_, rfl⟩
  have hb1 : Below w.heap.size w W1 := by rw [hW1]; exact bal _
  have x1 : W1.heap[w.heap.size]? = some (.cells #[.int .i64 o] 3 (0, 0)) := by rw [hW1]; exact heap_alloc_new w _
  have c0 := cofr x1 0 _ rfl
  have HP := Lib.hid (place_any (gf := 57) (cb := #[.pointer (some ⟨w.heap.size, 0, none⟩)]) (fun x => decide (o < x.2)) (h.later hb1) enters1 hn (fun W2 hW2 x _ => behind1_any (kcell hW2 c0) x) (by rw [← hlen]; exact hl.mono2 o))
  obtain ⟨p, rfl⟩ := h.ptr
  have HB := Lib.hid hb1
  clear hb1 x1 c0 h hlen
  go_enter Try.func34, Try.ntmps34
  go_wp2_with (go_at_call 46; rw [← hW1]; go_must (with_reducible refine HP.out.mono ?_); rintro e w3 ⟨rfl, hb3⟩)
  go_ret
  exact ⟨rfl, HB.out.trans (hb3.mono HB.out.size)⟩
theorem check_nil (w : World) (s : Sp) : Calls Try.prog 45 #[.pointer none, spV s] w (RetI 1 w) := by
  go_enter Try.func45, Try.ntmps45
  go_wp2
  go_ret
  exact ⟨rfl, bal _⟩
theorem check_any (w : World) (B : Nat) (s : Sp) : Calls Try.prog 45 #[.pointer (some ⟨B, 0, none⟩), spV s] w (RetI (if mayB s.1 s.2 = true then 0 else 3) w) := by
  have b1 := bal (w := w) (.cells #[.int .i64 s.1, .int .i64 s.2] 24)
  have s0 := sp_new w s
  have c0 := s0.c0; have c1 := s0.c1
  have HM := Lib.hid (may_any s.1 s.2 (w.alloc (.cells #[.int .i64 s.1, .int .i64 s.2] 24)))
  have HB := Lib.hid b1
  clear b1
  cases hm : mayB s.1 s.2
  all_goals
    rw [hm] at HM
    clear hm
    go_enter Try.func45, Try.ntmps45
    go_wp2_with (go_at_call 62; go_must (with_reducible refine HM.out.mono ?_); rintro e w3 ⟨rfl, hb3⟩)
    go_ret
    exact ⟨rfl, HB.out.trans (hb3.mono HB.out.size)⟩
end Go.Proofs.Ytgjkbejlfclpoaa.rn
