/-
  Package frto: five states; in memory; its methods.
-/
import Derived.Test.YtjnnbnjbcgdgpaaProg
import Derived.Test.YtjnnbnjbcgdgpaaMem
import Derived.Laws.StructEq
import Derived.Deep.DrawnRows
import Derived.StillTailTactics
import Derived.IntWalk
namespace Go.Proofs.Ytjnnbnjbcgdgpaa.fr
open Go.RowKit aid mem
attribute [local go_sem ↓] Go.wp_at_zero Go.wp_at_succ
set_option linter.unusedVariables false
set_option linter.unusedSimpArgs false

/-- off, the first step, the second one behind none, one, two that went -/
inductive Fr where
  | off | one | two0 | two1 | two2
  deriving DecidableEq
def st : Fr → Int
  | .off => 0 | .one => 1 | .two0 => 2 | .two1 => 2 | .two2 => 2
def rm : Fr → Int
  | .off => 0 | .one => 0 | .two0 => 2 | .two1 => 1 | .two2 => 0
def wt : Fr → Int
  | .off => 0 | .one => 0 | .two0 => 0 | .two1 => 1 | .two2 => 2
def snd : Fr → Fr
  | .two0 => .two1 | .two1 => .two2 | x => x
def sndB : Fr → Bool
  | .two0 => true | .two1 => true | _ => false
def told (x : Fr) (a wh f : Bool) : Fr := if x = .one ∧ a = true ∧ wh = false then .two0 else .off
def toldN (x : Fr) (a wh f : Bool) : Int := if x = .off then 0 else if x = .one ∧ a = true ∧ wh = false then 1 else if st x = 2 ∧ a = true ∧ f = true then 2 else 3
abbrev cellsF (x : Fr) : Array Value := #[.int .i64 (st x), .int .i64 (rm x)]
abbrev cellsR (x : Fr) : Array Value := #[.int .i64 (st x), .int .i64 (wt x)]
abbrev rv (x : Fr) : Value := .agg (cellsR x)
abbrev rvO (x : Fr) : Obj := .cells (cellsR x) 28
def FrAt (w : World) (B : Nat) (x : Fr) : Prop := w.heap[B]? = some (.cells (cellsF x) 26 (0, 0))
section
variable {w : World} {B : Nat} {x : Fr} (h : FrAt w B x)
include h
theorem FrAt.cs : w.cell? ⟨B, 0, none⟩ = some (.int .i64 (st x)) ∧ w.cell? ⟨B, 1, none⟩ = some (.int .i64 (rm x)) :=
  ⟨(cell_of_row w B 0 _ _ (0, 0) h).trans rfl, (cell_of_row w B 1 _ _ (0, 0) h).trans rfl⟩
theorem FrAt.f (i : Nat) : w.frozen? ⟨B, i, none⟩ = false := by simp [World.frozen?, show w.heap[B]? = _ from h]
theorem FrAt.keep {S : List Nat} {w' : World} (hk : Kept S w w') (hb : B ∉ S) : FrAt w' B x := hk.heap hb h
theorem FrAt.later {w' : World} (hk : Below w.heap.size w w') : FrAt w' B x := (hk.block B (lt_of_block h)).trans h
theorem FrAt.lt : B < w.heap.size := lt_of_block h
theorem FrAt.drewN (n : Nat) : FrAt (w.drewN n) B x := h
theorem FrAt.drew : FrAt w.drew B x := h
end
abbrev put2 (B : Nat) (u v : Int) (W : World) : World := (W.setCell ⟨B, 0, none⟩ (.int .i64 u)).setCell ⟨B, 1, none⟩ (.int .i64 v)
theorem put2_at {W : World} {B : Nat} {a b : Value} {T : TypeId} (h : W.heap[B]? = some (.cells #[a, b] T (0, 0))) (u v : Int) : (put2 B u v W).heap[B]? = some (.cells #[.int .i64 u, .int .i64 v] T (0, 0)) := by
  have g : (W.setCell ⟨B, 0, none⟩ (.int .i64 u)).heap[B]? = some (.cells #[.int .i64 u, b] T (0, 0)) := heap_setCell_same W B 0 _ _ _ h
  exact heap_setCell_same _ B 1 _ _ _ g
theorem kset (w : World) (B i : Nat) (u : Value) : Kept [B] w (w.setCell ⟨B, i, none⟩ u) := (Kept.refl [B] w).setCell (.inl (by simp)) u
theorem put2_kept (B : Nat) (u v : Int) (W : World) : Kept [B] W (put2 B u v W) := (kset W B 0 _).trans (kset _ B 1 _) (by simp)
theorem cofr {w : World} {b : Nat} {cs : Array Value} {T : TypeId} (h : w.heap[b]? = some (.cells cs T (0, 0))) (i : Nat) (v : Value) (hv : cs[i]? = some v) : w.cell? ⟨b, i, none⟩ = some v := (cell_of_row w b i _ _ (0, 0) h).trans hv
theorem fofr {w : World} {b : Nat} {cs : Array Value} {T : TypeId} (h : w.heap[b]? = some (.cells cs T (0, 0))) (i : Nat) : w.frozen? ⟨b, i, none⟩ = false := by simp [World.frozen?, h]
theorem al (w : World) (o : Obj) : Below w.heap.size w (w.alloc o) := (Below.refl _ _).alloc (Nat.le_refl _) _
/-- a call that changes nothing but draws -/
def Q (f : FuncId) (args : Array Value) (v : Value) (w : World) : Prop := ∀ n, Calls Try.prog f args (w.drewN n) fun e w'' => e = .returned v ∧ ∃ m, w'' = w.drewN m
theorem Q.mk {f : FuncId} {args : Array Value} {v : Value} {w : World} (h : ∀ n, Calls Try.prog f args (w.drewN n) fun e w'' => e = .returned v ∧ ∃ m, w'' = (w.drewN n).drewN m) : Q f args v w := fun n =>
  (h n).mono fun _ _ ⟨he, m, hm⟩ => ⟨he, n + m, by rw [hm, World.drewN_drewN]⟩
theorem Q.at {f : FuncId} {args : Array Value} {v : Value} {w : World} (h : Q f args v w) : Calls Try.prog f args w fun e w'' => e = .returned v ∧ ∃ m, w'' = w.drewN m := h 0
theorem Q.below {f : FuncId} {args : Array Value} {v : Value} {w : World} (h : Q f args v w) : Calls Try.prog f args w fun e w' => e = .returned v ∧ Below w.heap.size w w' :=
  (h.at).mono fun e w' ⟨h1, n, h2⟩ => ⟨h1, h2 ▸ ⟨rfl, rfl, rfl, Nat.le_refl _, fun _ _ => rfl⟩⟩
def RetF (v : Value) (B : Nat) (x' : Fr) (w : World) (e : Ending) (w' : World) : Prop := e = .returned v ∧ FrAt w' B x' ∧ Kept [B] w w'
theorem kd (w : World) (n : Nat) (S : List Nat) : Kept S w (w.drewN n) := (Kept.refl S w).drewN n

theorem room_q {w : World} {B : Nat} {x : Fr} (h : FrAt w B x) : Q 14 #[.pointer (some ⟨B, 0, none⟩)] (.int .i64 (rm x)) w := by
  refine Q.mk fun n => ?_
  replace h := h.drewN n
  generalize w.drewN n = w at *
  have c := h.cs.2
  go_enter Try.func14, Try.ntmps14
  go_wp2
  go_ret
  exact ⟨rfl, 0, rfl⟩
theorem holds_q {w : World} {B : Nat} {x : Fr} (h : FrAt w B x) : Q 13 #[.pointer (some ⟨B, 0, none⟩)] (.bool (decide (0 < st x))) w := by
  refine Q.mk fun n => ?_
  replace h := h.drewN n
  generalize w.drewN n = w at *
  have c := h.cs.1
  cases x <;> dsimp only [st] at c <;> go_enter Try.func13, Try.ntmps13 <;> go_wp2
  all_goals
    go_ret
    exact ⟨rfl, 0, rfl⟩
theorem none_q (w : World) : Q 14 #[.pointer none] (.int .i64 0) w ∧ Q 13 #[.pointer none] (.bool false) w ∧ Q 7 #[.pointer none] (.bool false) w := by
  refine ⟨?_, ?_, ?_⟩ <;> refine Q.mk fun n => ?_ <;> generalize w.drewN n = w
  · go_enter Try.func14, Try.ntmps14
    go_wp2
    go_ret
    exact ⟨rfl, 0, rfl⟩
  · go_enter Try.func13, Try.ntmps13
    go_wp2
    go_ret
    exact ⟨rfl, 0, rfl⟩
  · go_enter Try.func7, Try.ntmps7
    go_wp2
    go_ret
    exact ⟨rfl, 0, rfl⟩
theorem none_q2 (w : World) (a b c : Bool) : Calls Try.prog 8 #[.pointer none] w (fun e w' => e = .returned (.bool false) ∧ ∃ n, w' = w.drewN n) ∧ Calls Try.prog 10 #[.pointer none] w (fun e w' => e = .returned (.bool false) ∧ ∃ n, w' = w.drewN n) ∧ Calls Try.prog 12 #[.pointer none, .bool a, .bool b, .bool c] w (fun e w' => e = .returned (.int .i64 0) ∧ ∃ n, w' = w.drewN n) := by
  refine ⟨?_, ?_, ?_⟩
  · go_enter Try.func8, Try.ntmps8
    go_wp2_with (go_at_call 13; (with_reducible refine ((none_q _).2.1.at).mono ?_); rintro e w1 ⟨rfl, n, rfl⟩)
    go_ret
    exact ⟨rfl, _, rfl⟩
  · go_enter Try.func10, Try.ntmps10
    go_wp2_with (go_at_call 14; (with_reducible refine ((none_q _).1.at).mono ?_); rintro e w1 ⟨rfl, n, rfl⟩)
    go_ret
    exact ⟨rfl, _, rfl⟩
  · go_enter Try.func12, Try.ntmps12
    go_wp2_with (go_at_call 13; (with_reducible refine ((none_q _).2.1.at).mono ?_); rintro e w1 ⟨rfl, n, rfl⟩)
    go_ret
    exact ⟨rfl, _, rfl⟩
set_option maxHeartbeats 1000000 in
theorem start_any {w : World} {B : Nat} {x : Fr} (h : FrAt w B x) : Calls Try.prog 7 #[.pointer (some ⟨B, 0, none⟩)] w (RetF (.bool (st x == 0)) B .one w) := by
  have HP := Lib.hid (put2_at h 1 0)
  obtain ⟨c0, c1⟩ := h.cs
  have f0 := h.f 0; have f1 := h.f 1
  clear h
  go_enter Try.func7, Try.ntmps7
  go_wp2_with fail
  go_ret
  exact ⟨rfl, HP.out, put2_kept _ _ _ _⟩
set_option maxHeartbeats 1000000 in
theorem stop_any {w : World} {B : Nat} {x : Fr} (h : FrAt w B x) : Calls Try.prog 8 #[.pointer (some ⟨B, 0, none⟩)] w (RetF (.bool (decide (0 < st x))) B .off w) := by
  by_cases hs : 0 < st x
  · have hd := decide_eq_true hs
    go_enter Try.func8, Try.ntmps8
    go_wp2_with (go_at_call 13; (with_reducible refine ((holds_q h).at).mono ?_); rintro e w1 ⟨rfl, n, rfl⟩; have HK := Lib.hid (kd w n [B]); replace h := h.drewN n; generalize w.drewN n = w1 at *; have HP := Lib.hid (put2_at h 0 0); obtain ⟨c0, c1⟩ := h.cs; have f0 := h.f 0; have f1 := h.f 1; clear h)
    go_ret
    exact ⟨ret_b (by simp [hs]), HP.out, HK.out.trans (put2_kept _ _ _ _) (by simp)⟩
  · have hd := decide_eq_false hs
    have hx : x = .off := by cases x <;> first | rfl | (simp [st] at hs)
    subst hx
    go_enter Try.func8, Try.ntmps8
    go_wp2_with (go_at_call 13; (with_reducible refine ((holds_q h).at).mono ?_); rintro e w1 ⟨rfl, n, rfl⟩; have HK := Lib.hid (kd w n [B]); replace h := Lib.hid (h.drewN n); generalize w.drewN n = w1 at *)
    go_ret
    exact ⟨ret_b (by simp [hs]), h.out, HK.out⟩
set_option maxHeartbeats 1000000 in
theorem sent_any {w : World} {B : Nat} {x : Fr} (h : FrAt w B x) : Calls Try.prog 10 #[.pointer (some ⟨B, 0, none⟩)] w (RetF (.bool (sndB x)) B (snd x) w) := by
  cases x
  case two0 =>
    have HQ := Lib.hid (room_q h)
    dsimp only [rm] at HQ
    go_enter Try.func10, Try.ntmps10
    go_wp2_with (go_at_call 14; (with_reducible refine (HQ.out.at).mono ?_); rintro e w1 ⟨rfl, n, rfl⟩; have HK := Lib.hid (kd w n [B]); replace h := h.drewN n; generalize w.drewN n = w1 at *; have HP := Lib.hid (heap_setCell_same _ B 1 _ _ (.int .i64 1) h); obtain ⟨c0, c1⟩ := h.cs; dsimp only [st, rm] at c0 c1; have f0 := h.f 0; have f1 := h.f 1; clear h)
    go_ret
    exact ⟨rfl, HP.out, HK.out.trans (kset _ _ _ _) (by simp)⟩
  case two1 =>
    have HQ := Lib.hid (room_q h)
    dsimp only [rm] at HQ
    go_enter Try.func10, Try.ntmps10
    go_wp2_with (go_at_call 14; (with_reducible refine (HQ.out.at).mono ?_); rintro e w1 ⟨rfl, n, rfl⟩; have HK := Lib.hid (kd w n [B]); replace h := h.drewN n; generalize w.drewN n = w1 at *; have HP := Lib.hid (heap_setCell_same _ B 1 _ _ (.int .i64 0) h); obtain ⟨c0, c1⟩ := h.cs; dsimp only [st, rm] at c0 c1; have f0 := h.f 0; have f1 := h.f 1; clear h)
    go_ret
    exact ⟨rfl, HP.out, HK.out.trans (kset _ _ _ _) (by simp)⟩
  all_goals
    have HQ := Lib.hid (room_q h)
    dsimp only [rm] at HQ
    go_enter Try.func10, Try.ntmps10
    go_wp2_with (go_at_call 14; (with_reducible refine (HQ.out.at).mono ?_); rintro e w1 ⟨rfl, n, rfl⟩; have HK := Lib.hid (kd w n [B]); replace h := Lib.hid (h.drewN n); generalize w.drewN n = w1 at *)
    go_ret
    exact ⟨rfl, h.out, HK.out⟩
theorem st_cases (x : Fr) : x = .off ∨ x = .one ∨ (st x = 2 ∧ x ≠ .off ∧ x ≠ .one) := by cases x <;> simp [st]
set_option maxHeartbeats 4000000 in
theorem told_any {w : World} {B : Nat} {x : Fr} (h : FrAt w B x) (a wh f : Bool) : Calls Try.prog 12 #[.pointer (some ⟨B, 0, none⟩), .bool a, .bool wh, .bool f] w (RetF (.int .i64 (toldN x a wh f)) B (told x a wh f) w) := by
  have HQ := Lib.hid (holds_q h)
  rcases st_cases x with rfl | rfl | ⟨hx, hx0, hx1⟩
  · dsimp only [st] at HQ
    go_enter Try.func12, Try.ntmps12
    go_wp2_with (go_at_call 13; (with_reducible refine (HQ.out.at).mono ?_); rintro e w1 ⟨rfl, n, rfl⟩; have HK := Lib.hid (kd w n [B]); replace h := Lib.hid (h.drewN n); generalize w.drewN n = w1 at *)
    go_ret
    exact ⟨rfl, h.out, HK.out⟩
  · dsimp only [st] at HQ
    cases a with
    | false =>
      go_enter Try.func12, Try.ntmps12
      go_wp2_with (first
        | (go_at_call 13; (with_reducible refine (HQ.out.at).mono ?_); rintro e w1 ⟨rfl, n, rfl⟩; have HK := Lib.hid (kd w n [B]); replace h := h.drewN n; generalize w.drewN n = w1 at *; have HS := Lib.hid (stop_any h); obtain ⟨c0, c1⟩ := h.cs; dsimp only [st, rm] at c0 c1; clear h)
        | (go_at_call 8; (with_reducible refine (HS.out).mono ?_); rintro e w1 ⟨rfl, h, hk⟩; clear HS c0 c1; replace h := Lib.hid h; replace hk := Lib.hid hk))
      go_ret
      exact ⟨rfl, h.out, HK.out.trans hk.out (by simp)⟩
    | true =>
      cases wh with
      | true =>
        go_enter Try.func12, Try.ntmps12
        go_wp2_with (first
          | (go_at_call 13; (with_reducible refine (HQ.out.at).mono ?_); rintro e w1 ⟨rfl, n, rfl⟩; have HK := Lib.hid (kd w n [B]); replace h := h.drewN n; generalize w.drewN n = w1 at *; have HS := Lib.hid (stop_any h); obtain ⟨c0, c1⟩ := h.cs; dsimp only [st, rm] at c0 c1; clear h)
          | (go_at_call 8; (with_reducible refine (HS.out).mono ?_); rintro e w1 ⟨rfl, h, hk⟩; clear HS c0 c1; replace h := Lib.hid h; replace hk := Lib.hid hk))
        go_ret
        exact ⟨rfl, h.out, HK.out.trans hk.out (by simp)⟩
      | false =>
        go_enter Try.func12, Try.ntmps12
        go_wp2_with (go_at_call 13; (with_reducible refine (HQ.out.at).mono ?_); rintro e w1 ⟨rfl, n, rfl⟩; have HK := Lib.hid (kd w n [B]); replace h := h.drewN n; generalize w.drewN n = w1 at *; have HP := Lib.hid (put2_at h 2 2); obtain ⟨c0, c1⟩ := h.cs; dsimp only [st, rm] at c0 c1; have f0 := h.f 0; have f1 := h.f 1; clear h)
        go_ret
        exact ⟨rfl, HP.out, HK.out.trans (put2_kept _ _ _ _) (by simp)⟩
  · rw [hx] at HQ
    have HT : Hid (told x a wh f = .off ∧ toldN x a wh f = if a = true ∧ f = true then 2 else 3) := Lib.hid (by unfold told toldN; simp [hx, hx0, hx1])
    rw [HT.out.1, HT.out.2]
    cases a <;> cases f
    all_goals
      first | rw [if_pos ⟨rfl, rfl⟩] | rw [if_neg (by simp)]
      go_enter Try.func12, Try.ntmps12
      go_wp2_with (first
        | (go_at_call 13; (with_reducible refine (HQ.out.at).mono ?_); rintro e w1 ⟨rfl, n, rfl⟩; have HK := Lib.hid (kd w n [B]); replace h := h.drewN n; generalize w.drewN n = w1 at *; have HS := Lib.hid (stop_any h); obtain ⟨c0, c1⟩ := h.cs; rw [hx] at c0; clear h)
        | (go_at_call 8; (with_reducible refine (HS.out).mono ?_); rintro e w1 ⟨rfl, h, hk⟩; clear HS c0 c1; replace h := Lib.hid h; replace hk := Lib.hid hk))
      go_ret
      exact ⟨rfl, h.out, HK.out.trans hk.out (by simp)⟩
/-! the document's -/
def RetR (v : Value) (w : World) (e : Ending) (w' : World) : Prop := e = .returned v ∧ Below w.heap.size w w'
theorem rroom_any (x : Fr) (w : World) : Calls Try.prog 15 #[rv x] w (RetR (.int .i64 (rm x)) w) := by
  have hb := al w (rvO x)
  cases x
  all_goals
    dsimp only [rv, cellsR, rm, st, wt] at *
    go_enter Try.func15, Try.ntmps15
    go_wp2_with fail
    go_ret
    exact ⟨rfl, al _ _⟩
theorem bal2 {w : World} (a b : Obj) : Below w.heap.size w ((w.alloc a).alloc b) := ((Below.refl _ _).alloc (Nat.le_refl _) _).alloc (by simp) _
/-- the boxes of a call of the document's -/
structure RB (w : World) (y : Fr) (W : World) : Prop where
  b0 : W.heap[w.heap.size]? = some (rvO y)
  rs : W.heap[w.heap.size + 1]? = some (rvO .off)
  below : Below w.heap.size w W
theorem rb_new (w : World) (y : Fr) : RB w y ((w.alloc (rvO y)).alloc (rvO .off)) := by
  have b1 := al w (rvO y)
  have y1 := heap_alloc_new w (rvO y)
  have z1 : (w.alloc (rvO y)).heap.size = w.heap.size + 1 := by simp
  generalize w.alloc (rvO y) = w1 at *
  have b2 := al w1 (rvO .off)
  have y2 := heap_alloc_new w1 (rvO .off)
  rw [z1] at y2
  exact ⟨(b2.block _ (lt_of_block y1)).trans y1, y2, b1.trans (b2.mono b1.size)⟩
theorem RB.later {w W W' : World} {y : Fr} (h : RB w y W) (hb : Below W.heap.size W W') : RB w y W' := ⟨(hb.block _ (lt_of_block h.b0)).trans h.b0, (hb.block _ (lt_of_block h.rs)).trans h.rs, h.below.trans (hb.mono h.below.size)⟩
theorem RB.put {w W : World} {y y' : Fr} (h : RB w y W) (i : Nat) (u : Value) (hy : (cellsR y).setIfInBounds i u = cellsR y') : RB w y' (W.setCell ⟨w.heap.size, i, none⟩ u) := by
  have hk := kset W w.heap.size i u
  have hh : (W.setCell ⟨w.heap.size, i, none⟩ u).heap[w.heap.size]? = _ := heap_setCell_same _ _ i _ _ u h.b0
  rw [hy] at hh
  exact ⟨hh, hk.heap (by simp) h.rs, h.below.trans (hk.below (by simp) h.below.size)⟩
theorem RB.end_ {w W : World} {y : Fr} (h : RB w y W) (u v : Int) : (put2 (w.heap.size + 1) u v W).heap[w.heap.size + 1]? = some (.cells #[.int .i64 u, .int .i64 v] 28 (0, 0)) ∧ Below w.heap.size w (put2 (w.heap.size + 1) u v W) :=
  ⟨put2_at h.rs u v, h.below.trans ((put2_kept (w.heap.size + 1) u v W).below (by simp) h.below.size)⟩
theorem rv_cs {w : World} {b : Nat} {y : Fr} (h : w.heap[b]? = some (rvO y)) : w.cell? ⟨b, 0, none⟩ = some (.int .i64 (st y)) ∧ w.cell? ⟨b, 1, none⟩ = some (.int .i64 (wt y)) := ⟨cofr h 0 _ rfl, cofr h 1 _ rfl⟩
theorem two_cs {w : World} {b : Nat} {u v : Value} {T : TypeId} (h : w.heap[b]? = some (.cells #[u, v] T (0, 0))) : w.cell? ⟨b, 0, none⟩ = some u ∧ w.cell? ⟨b, 1, none⟩ = some v := ⟨cofr h 0 _ rfl, cofr h 1 _ rfl⟩
set_option maxHeartbeats 4000000 in
theorem rsent_any (x : Fr) (w : World) : Calls Try.prog 9 #[rv x] w (RetR (.tuple #[rv (snd x), .bool (sndB x)]) w) := by
  have HR := Lib.hid (rb_new w x)
  have HQ := Lib.hid (fun W => rroom_any x W)
  by_cases hx : x = .two0 ∨ x = .two1
  · rcases hx with rfl | rfl
    all_goals
      dsimp only [rm] at HQ
      go_enter Try.func9, Try.ntmps9
      go_wp2_with (go_at_call 15; (with_reducible refine (HQ.out _).mono ?_); rintro e w1 ⟨rfl, h1⟩; replace HR := Lib.hid (HR.out.later h1); clear h1; obtain ⟨c0, c1⟩ := rv_cs HR.out.b0; dsimp only [st, wt] at c0 c1; have f1 := fofr HR.out.b0 1; have g0 := fofr HR.out.rs 0; have g1 := fofr HR.out.rs 1; obtain ⟨e0, e1⟩ := rv_cs HR.out.rs)
      first
        | (have HE := Lib.hid ((HR.out.put (y' := .two1) 1 (.int .i64 1) rfl).end_ 2 1)
           obtain ⟨y0, y1⟩ := two_cs HE.out.1
           exact bodyPost_ret (v := .tuple #[rv .two1, .bool true]) (by simp [results, Try.results9, go_sem, y0, y1, st, wt]) rfl ⟨rfl, HE.out.2⟩)
        | (have HE := Lib.hid ((HR.out.put (y' := .two2) 1 (.int .i64 2) rfl).end_ 2 2)
           obtain ⟨y0, y1⟩ := two_cs HE.out.1
           exact bodyPost_ret (v := .tuple #[rv .two2, .bool true]) (by simp [results, Try.results9, go_sem, y0, y1, st, wt]) rfl ⟨rfl, HE.out.2⟩)
  · have HS : Hid (snd x = x ∧ sndB x = false ∧ rm x = 0) := Lib.hid (by cases x <;> simp at hx <;> simp [snd, sndB, rm])
    rw [HS.out.1, HS.out.2.1]
    rw [HS.out.2.2] at HQ
    go_enter Try.func9, Try.ntmps9
    go_wp2_with (go_at_call 15; (with_reducible refine (HQ.out _).mono ?_); rintro e w1 ⟨rfl, h1⟩; replace HR := Lib.hid (HR.out.later h1); clear h1; obtain ⟨c0, c1⟩ := rv_cs HR.out.b0; have g0 := fofr HR.out.rs 0; have g1 := fofr HR.out.rs 1; obtain ⟨e0, e1⟩ := rv_cs HR.out.rs; have HE := Lib.hid (HR.out.end_ (st x) (wt x)))
    obtain ⟨y0, y1⟩ := two_cs HE.out.1
    exact bodyPost_ret (v := .tuple #[rv x, .bool false]) (by simp [results, Try.results9, go_sem, y0, y1]) rfl ⟨rfl, HE.out.2⟩
set_option maxHeartbeats 4000000 in
theorem rtold_any (x : Fr) (a wh f : Bool) (w : World) : Calls Try.prog 11 #[rv x, .bool a, .bool wh, .bool f] w (RetR (.tuple #[rv (told x a wh f), .int .i64 (toldN x a wh f)]) w) := by
  cases x <;> cases a <;> cases wh <;> cases f
  all_goals
    go_enter Try.func11, Try.ntmps11
    go_wp2_with fail
    first
      | exact bodyPost_ret (v := .tuple #[rv .off, .int .i64 0]) (by simp [results, Try.results11, go_sem, st, wt]) rfl ⟨rfl, bal2 _ _⟩
      | exact bodyPost_ret (v := .tuple #[rv .off, .int .i64 3]) (by simp [results, Try.results11, go_sem, st, wt]) rfl ⟨rfl, bal2 _ _⟩
      | exact bodyPost_ret (v := .tuple #[rv .off, .int .i64 2]) (by simp [results, Try.results11, go_sem, st, wt]) rfl ⟨rfl, bal2 _ _⟩
      | exact bodyPost_ret (v := .tuple #[rv .two0, .int .i64 1]) (by simp [results, Try.results11, go_sem, st, wt]) rfl ⟨rfl, bal2 _ _⟩
end Go.Proofs.Ytjnnbnjbcgdgpaa.fr
