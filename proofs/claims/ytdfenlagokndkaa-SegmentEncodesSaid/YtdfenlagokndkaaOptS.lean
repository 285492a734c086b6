/-
  Package option: what an option says is taken over.
-/
import Derived.Test.YtdfenlagokndkaaOptB
namespace Go.Proofs.Ytdfenlagokndkaa.op
open Go.RowKit aid mem oc
set_option linter.unusedVariables false

theorem OptAt.set0 {w : World} {B : Nat} {o : Opt} {a : Option Addr} {n cap : Nat} (h : OptAt w B o a n cap) (y : Int) : OptAt (w.setCell ⟨B, 0, none⟩ (.int .i64 y)) B { o with mss := y } a n cap :=
  ⟨set_same h.c0, (set_other (by simp)).trans h.c1, (set_other (by simp)).trans h.c2, (set_other (by simp)).trans h.c3, (set_other (by simp)).trans h.c4, (set_other (by simp)).trans h.c5, (set_other (by simp)).trans h.c6, (set_other (by simp)).trans h.c7⟩
theorem OptAt.set1 {w : World} {B : Nat} {o : Opt} {a : Option Addr} {n cap : Nat} (h : OptAt w B o a n cap) (y : Bool) : OptAt (w.setCell ⟨B, 1, none⟩ (.bool y)) B { o with permit := y } a n cap :=
  ⟨(set_other (by simp)).trans h.c0, set_same h.c1, (set_other (by simp)).trans h.c2, (set_other (by simp)).trans h.c3, (set_other (by simp)).trans h.c4, (set_other (by simp)).trans h.c5, (set_other (by simp)).trans h.c6, (set_other (by simp)).trans h.c7⟩
theorem OptAt.set2 {w : World} {B : Nat} {o : Opt} {a : Option Addr} {n cap : Nat} (h : OptAt w B o a n cap) (y : Bool) : OptAt (w.setCell ⟨B, 2, none⟩ (.bool y)) B { o with ts := y } a n cap :=
  ⟨(set_other (by simp)).trans h.c0, (set_other (by simp)).trans h.c1, set_same h.c2, (set_other (by simp)).trans h.c3, (set_other (by simp)).trans h.c4, (set_other (by simp)).trans h.c5, (set_other (by simp)).trans h.c6, (set_other (by simp)).trans h.c7⟩
theorem OptAt.set3 {w : World} {B : Nat} {o : Opt} {a : Option Addr} {n cap : Nat} (h : OptAt w B o a n cap) (y : Int) : OptAt (w.setCell ⟨B, 3, none⟩ (.int .u32 y)) B { o with val := y } a n cap :=
  ⟨(set_other (by simp)).trans h.c0, (set_other (by simp)).trans h.c1, (set_other (by simp)).trans h.c2, set_same h.c3, (set_other (by simp)).trans h.c4, (set_other (by simp)).trans h.c5, (set_other (by simp)).trans h.c6, (set_other (by simp)).trans h.c7⟩
theorem OptAt.set4 {w : World} {B : Nat} {o : Opt} {a : Option Addr} {n cap : Nat} (h : OptAt w B o a n cap) (y : Int) : OptAt (w.setCell ⟨B, 4, none⟩ (.int .u32 y)) B { o with ecr := y } a n cap :=
  ⟨(set_other (by simp)).trans h.c0, (set_other (by simp)).trans h.c1, (set_other (by simp)).trans h.c2, (set_other (by simp)).trans h.c3, set_same h.c4, (set_other (by simp)).trans h.c5, (set_other (by simp)).trans h.c6, (set_other (by simp)).trans h.c7⟩
theorem OptAt.set5 {w : World} {B : Nat} {o : Opt} {a : Option Addr} {n cap : Nat} (h : OptAt w B o a n cap) (y : Bool) : OptAt (w.setCell ⟨B, 5, none⟩ (.bool y)) B { o with hs := y } a n cap :=
  ⟨(set_other (by simp)).trans h.c0, (set_other (by simp)).trans h.c1, (set_other (by simp)).trans h.c2, (set_other (by simp)).trans h.c3, (set_other (by simp)).trans h.c4, set_same h.c5, (set_other (by simp)).trans h.c6, (set_other (by simp)).trans h.c7⟩
theorem OptAt.set6 {w : World} {B : Nat} {o : Opt} {a : Option Addr} {n cap : Nat} (h : OptAt w B o a n cap) (y : Int) : OptAt (w.setCell ⟨B, 6, none⟩ (.int .i64 y)) B { o with scale := y } a n cap :=
  ⟨(set_other (by simp)).trans h.c0, (set_other (by simp)).trans h.c1, (set_other (by simp)).trans h.c2, (set_other (by simp)).trans h.c3, (set_other (by simp)).trans h.c4, (set_other (by simp)).trans h.c5, set_same h.c6, (set_other (by simp)).trans h.c7⟩
theorem OptAt.set7 {w : World} {B : Nat} {o : Opt} {a : Option Addr} {n cap : Nat} (h : OptAt w B o a n cap) (a' : Option Addr) (n' cap' : Nat) (y : List (Int × Int)) : OptAt (w.setCell ⟨B, 7, none⟩ (.slice a' n' cap')) B { o with bl := y } a' n' cap' :=
  ⟨(set_other (by simp)).trans h.c0, (set_other (by simp)).trans h.c1, (set_other (by simp)).trans h.c2, (set_other (by simp)).trans h.c3, (set_other (by simp)).trans h.c4, (set_other (by simp)).trans h.c5, (set_other (by simp)).trans h.c6, set_same h.c7⟩

/-- options that are written to -/
structure OpA (w : World) (B : Nat) (o : Opt) (a : Option Addr) (n cap : Nat) : Prop where
  box : OptAt w B o a n cap
  fz : ∀ i, i < 8 → w.frozen? ⟨B, i, none⟩ = false
  bl : BlA w a n cap o.bl
  ne : ∀ x, a = some x → 0 < n → x.block ≠ B
theorem OpA.cellAt {w : World} {B : Nat} {o : Opt} {a : Option Addr} {n cap : Nat} (h : OpA w B o a n cap) (i : Nat) (hi : i < 8) : ∃ v, w.cell? ⟨B, i, none⟩ = some v := by
  rcases (show i = 0 ∨ i = 1 ∨ i = 2 ∨ i = 3 ∨ i = 4 ∨ i = 5 ∨ i = 6 ∨ i = 7 by omega) with rfl | rfl | rfl | rfl | rfl | rfl | rfl | rfl
  · exact ⟨_, h.box.c0⟩
  · exact ⟨_, h.box.c1⟩
  · exact ⟨_, h.box.c2⟩
  · exact ⟨_, h.box.c3⟩
  · exact ⟨_, h.box.c4⟩
  · exact ⟨_, h.box.c5⟩
  · exact ⟨_, h.box.c6⟩
  · exact ⟨_, h.box.c7⟩
theorem OpA.keep {w w' : World} {B : Nat} {o : Opt} {a : Option Addr} {n cap : Nat} (h : OpA w B o a n cap) {S : List Nat} (hk : Kept S w w') (hS : ∀ x ∈ S, w.heap.size ≤ x) : OpA w' B o a n cap := by
  have hB := h.box.lt
  have hn : B ∉ S := fun e => by have := hS B e; omega
  refine ⟨h.box.keep hk hn, fun i hi => ?_, h.bl.keep hk (fun x hx h0 e => by have := h.bl.lt x hx h0; have := hS _ e; omega), h.ne⟩
  obtain ⟨v, hv⟩ := h.cellAt i hi
  exact (hk.frozen (p := ⟨B, i, none⟩) hn hv).trans (h.fz i hi)
theorem OpA.later {w w' : World} {B : Nat} {o : Opt} {a : Option Addr} {n cap : Nat} (h : OpA w B o a n cap) (hk : Below w.heap.size w w') : OpA w' B o a n cap :=
  h.keep (Kept.of_below hk (Nat.le_refl _) []) (by simp)
theorem OpA.stored {w : World} {B : Nat} {o o' : Opt} {a : Option Addr} {n cap : Nat} (h : OpA w B o a n cap) (j : Nat) (u : Value) (hb : OptAt (w.setCell ⟨B, j, none⟩ u) B o' a n cap) (hl : o'.bl = o.bl) : OpA (w.setCell ⟨B, j, none⟩ u) B o' a n cap :=
  ⟨hb, fun i hi => by simpa using h.fz i hi, by
    rw [hl]
    exact h.bl.keep ((Kept.refl [B] w).setCell (.inl (by simp)) u) (fun x hx h0 e => h.ne x hx h0 (by simpa using e)), h.ne⟩

/-- written: the blocks are the old ones, or new ones -/
def SetPost (B : Nat) (o : Opt) (a0 : Option Addr) (n0 : Nat) (w : World) (e : Ending) (w' : World) : Prop :=
  e = .returned (.tuple #[]) ∧ ∃ a n cap, OpA w' B o a n cap ∧ Kept [B] w w' ∧ ((a = a0 ∧ n = n0) ∨ ∀ x, a = some x → w.heap.size ≤ x.block)
theorem OpA.keep2 {w w' : World} {B : Nat} {o : Opt} {a : Option Addr} {n cap : Nat} (h : OpA w B o a n cap) {S : List Nat} (hk : Kept S w w') (hB : B ∉ S) (ha : ∀ x, a = some x → 0 < n → x.block ∉ S) : OpA w' B o a n cap := by
  refine ⟨h.box.keep hk hB, fun i hi => ?_, h.bl.keep hk ha, h.ne⟩
  obtain ⟨v, hv⟩ := h.cellAt i hi
  exact (hk.frozen (p := ⟨B, i, none⟩) hB hv).trans (h.fz i hi)

section
variable {w : World} {B : Nat} {o : Opt} {a : Option Addr} {n cap : Nat}

theorem len2 {s : List Int} (h : s.length = 2) : ∃ x y, s = [x, y] := by
  match s, h with
  | [x, y], _ => exact ⟨x, y, rfl⟩
theorem len1 {s : List Int} (h : s.length = 1) : ∃ x, s = [x] := by
  match s, h with
  | [x], _ => exact ⟨x, rfl⟩
theorem len8 {s : List Int} (h : s.length = 8) : ∃ a b c d e f g i, s = [a, b, c, d, e, f, g, i] := by
  match s, h with
  | [a, b, c, d, e, f, g, i], _ => exact ⟨a, b, c, d, e, f, g, i, rfl⟩

theorem after {w1 w2 : World} {p : Nat} (hb1 : Below w.heap.size w w1) (hk2 : Kept [p] w1 w2) (hp : w.heap.size ≤ p) : Kept [] w w2 :=
  (Kept.of_below hb1 (Nat.le_refl _) []).trans hk2 (fun x hx => by rw [List.mem_singleton] at hx; subst hx; exact .inr hp)

theorem OpA.past {w0 w' : World} {p : Nat} (h : OpA w B o a n cap) (hk : Kept [p] w w') (hn : B ≠ p) (hp : w0.heap.size ≤ p) (hlt : ∀ x, a = some x → 0 < n → x.block < w0.heap.size) : OpA w' B o a n cap := by
  have hB : B ∉ [p] := by simpa using hn
  refine ⟨h.box.keep hk hB, fun i hi => ?_, h.bl.keep hk (fun x hx h0 e => ?_), h.ne⟩
  · obtain ⟨v, hv⟩ := h.cellAt i hi
    exact (hk.frozen (p := ⟨B, i, none⟩) hB hv).trans (h.fz i hi)
  · have := hlt x hx h0
    rw [List.mem_singleton] at e
    omega

set_option maxHeartbeats 800000 in
theorem set_2 (h : OpA w B o a n cap) (sa : Option Addr) (m sc : Nat) (s : List Int) (hs : SlA .u8 w sa m sc s) (hb : Bd s) (hm : m = 2) :
    Calls Try.prog 108 #[.pointer (some ⟨B, 0, none⟩), .int .u8 2, .slice sa m sc] w (SetPost B (seto o 2 s) a n w) := by
  obtain ⟨x, y, rfl⟩ := len2 (by rw [hs.len, hm])
  have hx := hb x (by simp)
  have hy := hb y (by simp)
  have HE : Hid (seto o 2 [x, y] = { o with mss := x * 256 + y }) := Lib.hid (by simp [seto])
  have HB := Lib.hid hb
  clear hb
  have hmb : m ≤ 300 := by omega
  have HM := Lib.hid hm
  clear hm
  go_enter Try.func108, Try.ntmps108
  go_wp2_with fail
  refine (new_lt sa m sc _ w hs (by omega)).mono ?_
  rintro e w1 ⟨p, S, rfl, hr, hp, hS, hpl, hb1⟩
  go_wp2_with fail
  refine (rtwo_cons p S x y [] w1 hr HB.out).mono ?_
  rintro e w2 ⟨rfl, hr2, hk2⟩
  have k2 := after hb1 hk2 hp
  have h2 := h.keep k2 (by simp)
  have c0 := h2.box.c0
  have f0 := h2.fz 0 (by omega)
  go_wp2
  go_end0
  refine ⟨rfl, a, n, cap, ?_, (k2.mono (by simp)).setCell (.inl (by simp)) _, .inl ⟨rfl, rfl⟩⟩
  rw [HE.out]
  exact h2.stored 0 _ (h2.box.set0 _) rfl
set_option maxHeartbeats 800000 in
theorem set_3 (h : OpA w B o a n cap) (sa : Option Addr) (m sc : Nat) (s : List Int) (hs : SlA .u8 w sa m sc s) (hb : Bd s) (hm : m = 1) :
    Calls Try.prog 108 #[.pointer (some ⟨B, 0, none⟩), .int .u8 3, .slice sa m sc] w (SetPost B (seto o 3 s) a n w) := by
  obtain ⟨x, rfl⟩ := len1 (by rw [hs.len, hm])
  have hx := hb x (by simp)
  have HE : Hid (seto o 3 [x] = { o with hs := true, scale := min x 14 }) := Lib.hid (by simp [seto])
  have HB := Lib.hid hb
  clear hb
  have hmb : m ≤ 300 := by omega
  have HM := Lib.hid hm
  clear hm
  go_enter Try.func108, Try.ntmps108
  go_wp2_with fail
  refine (new_lt sa m sc _ w hs (by omega)).mono ?_
  rintro e w1 ⟨p, S, rfl, hr, hp, hS, hpl, hb1⟩
  go_wp2_with fail
  refine (rone_cons p S x [] w1 hr HB.out).mono ?_
  rintro e w2 ⟨rfl, hr2, hk2⟩
  have k2 := after hb1 hk2 hp
  have h2 := h.keep k2 (by simp)
  have c5 := h2.box.c5
  have f5 := h2.fz 5 (by omega)
  have h3 := h2.stored 5 (.bool true) (h2.box.set5 true) rfl
  have c6 := h3.box.c6
  have f6 := h3.fz 6 (by omega)
  go_wp2
  all_goals
    go_end0
    refine ⟨rfl, a, n, cap, ?_, ((k2.mono (by simp)).setCell (.inl (by simp)) _).setCell (.inl (by simp)) _, .inl ⟨rfl, rfl⟩⟩
    rw [HE.out]
    first
      | (rw [show min x 14 = x by omega]; exact h3.stored 6 _ (h3.box.set6 x) rfl)
      | (rw [show min x 14 = 14 by omega]; exact h3.stored 6 _ (h3.box.set6 14) rfl)
set_option maxHeartbeats 800000 in
theorem set_4 (h : OpA w B o a n cap) (sa : Option Addr) (m sc : Nat) (s : List Int) (hs : SlA .u8 w sa m sc s) (hm : m = 0) :
    Calls Try.prog 108 #[.pointer (some ⟨B, 0, none⟩), .int .u8 4, .slice sa m sc] w (SetPost B (seto o 4 s) a n w) := by
  have HE : Hid (seto o 4 s = { o with permit := true }) := Lib.hid (by simp [seto])
  have hmb : m ≤ 300 := by omega
  have HM := Lib.hid hm
  clear hm
  go_enter Try.func108, Try.ntmps108
  go_wp2_with fail
  refine (new_lt sa m sc _ w hs (by omega)).mono ?_
  rintro e w1 ⟨p, S, rfl, hr, hp, hS, hpl, hb1⟩
  have k2 := Kept.of_below hb1 (Nat.le_refl _) []
  have h2 := h.keep k2 (by simp)
  have c1 := h2.box.c1
  have f1 := h2.fz 1 (by omega)
  go_wp2
  go_end0
  refine ⟨rfl, a, n, cap, ?_, (k2.mono (by simp)).setCell (.inl (by simp)) _, .inl ⟨rfl, rfl⟩⟩
  rw [HE.out]
  exact h2.stored 1 _ (h2.box.set1 true) rfl
set_option maxHeartbeats 800000 in
theorem set_5 (h : OpA w B o a n cap) (sa : Option Addr) (m sc : Nat) (s : List Int) (hs : SlA .u8 w sa m sc s) (hb : Bd s) (q : Nat) (hm : m = 8 * q) (hq : q ≤ 4) :
    Calls Try.prog 108 #[.pointer (some ⟨B, 0, none⟩), .int .u8 5, .slice sa m sc] w (SetPost B (seto o 5 s) a n w) := by
  have HE : Hid (seto o 5 s = { o with bl := blks s }) := Lib.hid (by simp [seto])
  have HB := Lib.hid hb
  clear hb
  have hl := hs.len
  have HL := Lib.hid hl
  clear hl
  have hmb : m ≤ 300 := by omega
  have HM := Lib.hid hm
  clear hm
  go_enter Try.func108, Try.ntmps108
  go_wp2_with fail
  refine (new_lt sa m sc _ w hs (by omega)).mono ?_
  rintro e w1 ⟨p, S, rfl, hr, hp, hS, hpl, hb1⟩
  go_wp2_with fail
  refine (blocks_any p S s q w1 hr HB.out (by rw [HL.out, HM.out]) hq (fun x hx => (hS x hx).2) hpl).mono ?_
  rintro e w2 ⟨a2, cap2, rfl, hown, hk2⟩
  have z1 := hb1.size
  have k2 := after hb1 hk2 hp
  have h2 := h.keep k2 (by simp)
  have hB := h.box.lt
  obtain ⟨a3, cap3, hv, hbl, hblk⟩ := bl_of_own hown
  injection hv with hv1 _ hv2
  subst hv1 hv2
  have c7 := h2.box.c7
  have f7 := h2.fz 7 (by omega)
  go_wp2
  go_end0
  refine ⟨rfl, a2, q, cap2, ?_, (k2.mono (by simp)).setCell (.inl (by simp)) _, .inr (fun x hx => by have := (hown.lt _ (hblk x hx)).1; omega)⟩
  rw [HE.out]
  have hne : ∀ x, a2 = some x → 0 < q → x.block ≠ B := by
    intro x hx h0 e
    have := (hown.lt _ (hblk x hx)).1
    omega
  exact ⟨h2.box.set7 a2 q cap2 (blks s), fun i hi => by simpa using h2.fz i hi, hbl.keep ((Kept.refl [B] w2).setCell (.inl (by simp)) _) (fun x hx h0 e => hne x hx h0 (by simpa using e)), hne⟩
set_option maxHeartbeats 1600000 in
theorem set_8 (h : OpA w B o a n cap) (sa : Option Addr) (m sc : Nat) (s : List Int) (hs : SlA .u8 w sa m sc s) (hb : Bd s) (hm : m = 8) :
    Calls Try.prog 108 #[.pointer (some ⟨B, 0, none⟩), .int .u8 8, .slice sa m sc] w (SetPost B (seto o 8 s) a n w) := by
  obtain ⟨x0, x1, x2, x3, x4, x5, x6, x7, rfl⟩ := len8 (by rw [hs.len, hm])
  have HE : Hid (seto o 8 [x0, x1, x2, x3, x4, x5, x6, x7] = { o with ts := true, val := n4 x0 x1 x2 x3, ecr := n4 x4 x5 x6 x7 }) := Lib.hid (by simp [seto])
  have HB := Lib.hid hb
  have hb2 : Bd [x4, x5, x6, x7] := fun x hx => hb x (by simp only [List.mem_cons] at hx ⊢; simp only [List.not_mem_nil, or_false] at hx ⊢; simp [hx])
  have HB2 := Lib.hid hb2
  obtain ⟨X, hX⟩ : ∃ X, n4 x0 x1 x2 x3 = X := ⟨_, rfl⟩
  obtain ⟨Y, hY⟩ : ∃ Y, n4 x4 x5 x6 x7 = Y := ⟨_, rfl⟩
  have HX := Lib.hid hX
  have HY := Lib.hid hY
  rw [hX, hY] at HE
  clear hb hb2 hX hY
  have hmb : m ≤ 300 := by omega
  have HM := Lib.hid hm
  clear hm
  go_enter Try.func108, Try.ntmps108
  go_wp2_with fail
  refine (new_lt sa m sc _ w hs (by omega)).mono ?_
  rintro e w1 ⟨p, S, rfl, hr, hp, hS, hpl, hb1⟩
  have h1 := h.later hb1
  have c2 := h1.box.c2
  have f2 := h1.fz 2 (by omega)
  have h1s := h1.stored 2 (.bool true) (h1.box.set2 true) rfl
  have hB := h.box.lt
  have k1 : Kept [B] w (w1.setCell ⟨B, 2, none⟩ (.bool true)) := (Kept.of_below hb1 (Nat.le_refl _) [B]).setCell (.inl (by simp)) _
  have hrs := hr.keep ((Kept.refl [B] w1).setCell (p := ⟨B, 2, none⟩) (.inl (by simp)) (.bool true)) (by simp; omega) (fun x hx e => by simp at e; have := (hS x hx).1; omega)
  go_wp2_with fail
  obtain ⟨w2, hw2⟩ : ∃ w2, w1.setCell ⟨B, 2, none⟩ (.bool true) = w2 := ⟨_, rfl⟩
  rw [hw2] at h1s k1 hrs ⊢
  have z2 := k1.size
  clear hw2 hr h1 c2 f2
  have hnB : B ≠ p := by omega
  refine (rfour_cons p S x0 x1 x2 x3 [x4, x5, x6, x7] w2 hrs HB.out).mono ?_
  rintro e w3 ⟨rfl, hr3, hk3⟩
  rw [HX.out]
  have h3 := h1s.past hk3 hnB hp h.bl.lt
  have k3 : Kept [B] w w3 := k1.trans hk3 (fun x hx => by rw [List.mem_singleton] at hx; subst hx; exact .inr hp)
  have c3 := h3.box.c3
  have f3 := h3.fz 3 (by omega)
  have h3s := h3.stored 3 (.int .u32 X) (h3.box.set3 X) rfl
  have k3s : Kept [B] w (w3.setCell ⟨B, 3, none⟩ (.int .u32 X)) := k3.setCell (.inl (by simp)) _
  have hr3s := hr3.keep ((Kept.refl [B] w3).setCell (p := ⟨B, 3, none⟩) (.inl (by simp)) (.int .u32 X)) (by simp; omega) (fun x hx e => by simp at e; have := (hS x hx).1; omega)
  clear h3 k3 hr3 h1s k1 hrs hk3
  go_wp2_with fail
  obtain ⟨w4, hw4⟩ : ∃ w4, w3.setCell ⟨B, 3, none⟩ (.int .u32 X) = w4 := ⟨_, rfl⟩
  rw [hw4] at h3s k3s hr3s ⊢
  clear hw4 c3 f3
  refine (rfour_cons p S x4 x5 x6 x7 [] w4 hr3s HB2.out).mono ?_
  rintro e w5 ⟨rfl, hr5, hk5⟩
  rw [HY.out]
  have h5 := h3s.past hk5 hnB hp h.bl.lt
  have k5 : Kept [B] w w5 := k3s.trans hk5 (fun x hx => by rw [List.mem_singleton] at hx; subst hx; exact .inr hp)
  have c4 := h5.box.c4
  have f4 := h5.fz 4 (by omega)
  go_wp2
  go_end0
  refine ⟨rfl, a, n, cap, ?_, k5.setCell (.inl (by simp)) _, .inl ⟨rfl, rfl⟩⟩
  rw [HE.out]
  exact h5.stored 4 _ (h5.box.set4 Y) rfl
set_option maxHeartbeats 800000 in
theorem set_0 (h : OpA w B o a n cap) (k : Int) (hk : 0 ≤ k ∧ k ≤ 255) (h2 : k ≠ 2) (h3 : k ≠ 3) (h4 : k ≠ 4) (h5 : k ≠ 5) (h8 : k ≠ 8) (sa : Option Addr) (m sc : Nat) (s : List Int) (hs : SlA .u8 w sa m sc s) (hm : m ≤ 300) :
    Calls Try.prog 108 #[.pointer (some ⟨B, 0, none⟩), .int .u8 k, .slice sa m sc] w (SetPost B (seto o k s) a n w) := by
  have HE : Hid (seto o k s = o) := Lib.hid (by unfold seto; rw [if_neg h2, if_neg h3, if_neg h4, if_neg h5, if_neg h8])
  have g2 : (k == 2) = false := by simpa using h2
  have g3 : (k == 3) = false := by simpa using h3
  have g4 : (k == 4) = false := by simpa using h4
  have g5 : (k == 5) = false := by simpa using h5
  have g8 : (k == 8) = false := by simpa using h8
  clear h2 h3 h4 h5 h8
  go_enter Try.func108, Try.ntmps108
  go_wp2_with fail
  refine (new_lt sa m sc _ w hs (by omega)).mono ?_
  rintro e w1 ⟨p, S, rfl, hr, hp, hS, hpl, hb1⟩
  go_wp2
  go_end0
  exact ⟨rfl, a, n, cap, by rw [HE.out]; exact h.later hb1, Kept.of_below hb1 (Nat.le_refl _) [B], .inl ⟨rfl, rfl⟩⟩
end
end Go.Proofs.Ytdfenlagokndkaa.op
