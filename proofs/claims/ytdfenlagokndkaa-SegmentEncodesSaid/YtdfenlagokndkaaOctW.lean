/-
  Contracts of package octet: a writer that is written to by nobody else.
-/
import Derived.Test.YtdfenlagokndkaaProg
import Derived.Test.YtdfenlagokndkaaMem
namespace Go.Proofs.Ytdfenlagokndkaa.oc
open Go.RowKit aid mem
set_option linter.unusedVariables false

theorem info5 : (Try.prog.info? 5).map (fun i => (i.zero, i.size, i.bytes)) = some (some (.int .u8 0), 1, 1) := by kernel_rfl

/-- a row of bytes of one's own is answered, in new memory -/
def RetRow (n : Nat) (l : List Int) (w : World) (e : Ending) (w' : World) : Prop :=
  ∃ v, e = .returned v ∧ w'.ownsRow w.heap.size 5 1 v n (ints .u8 l) ∧ Below w.heap.size w w'

theorem fresh_any (a : Option Addr) (n cap : Nat) (l : List Int) (w : World) (h : SlA .u8 w a n cap l) (hb : n ≤ 140737488355328) :
    Calls Try.prog 95 #[.slice a n cap] w (RetRow n l w) := by
  obtain ⟨i0, hi, hz0, hz1, hz2⟩ := info_parts info5
  have hs := h.src Try.underlying26
  go_enter Try.func95, Try.ntmps95
  go_wp2_with (at_builtin; refine wpList_append_any _ rfl (.const (.slice none 0 0)) (.tmp 3) 26 26 rfl w.heap.size 5 i0 (.int .u8 0) 1 Try.underlying26 hi hz0 hz1 hz2 rfl (.slice none 0 0) 0 [] rfl (World.ownsRow_nil _ _ _ _) (.slice a n cap) rfl n (ints .u8 l) hs (by unfold maxLen; omega) (by omega) (Nat.le_refl _) ?_; intro a' cap' w1 hown hgr hat)
  simp only [Nat.zero_add, List.nil_append] at hown ⊢
  go_wp2
  go_ret
  exact ⟨_, rfl, hown, (Below.refl _ _).grown hgr (Nat.le_refl _) (fun k hk => by simp [Value.ownBlock] at hk)⟩

/-! ### A writer -/
/-- at block p: a pointer to what is written, and its length; S: the blocks behind it -/
structure Wr (w : World) (p : Nat) (S : List Nat) (l : List Int) : Prop where
  f0 : w.frozen? ⟨p, 0, none⟩ = false
  f1 : w.frozen? ⟨p, 1, none⟩ = false
  c1 : w.cell? ⟨p, 1, none⟩ = some (.int .i64 l.length)
  small : l.length ≤ 140737488355328
  rest : (w.cell? ⟨p, 0, none⟩ = some (.pointer none) ∧ l = [] ∧ S = []) ∨
    ∃ sb v, w.cell? ⟨p, 0, none⟩ = some (.pointer (some ⟨sb, 0, none⟩)) ∧ w.cell? ⟨sb, 0, none⟩ = some v ∧ w.frozen? ⟨sb, 0, none⟩ = false ∧
      w.ownsRow 0 5 1 v l.length (ints .u8 l) ∧ sb ≠ p ∧ (∀ g, v.ownBlock = some g → g ≠ p ∧ g ≠ sb) ∧ S = sb :: v.ownBlock.toList

theorem Wr.keep {w w' : World} {p : Nat} {S S' : List Nat} {l : List Int} (h : Wr w p S l) (hk : Kept S' w w') (hp : p ∉ S') (hd : ∀ k ∈ S, k ∉ S') : Wr w' p S l := by
  rcases h.rest with ⟨h0, hl, hS⟩ | ⟨sb, v, h0, hs, hf, hown, hne, hg, hS⟩
  · exact ⟨(hk.frozen (p := ⟨p, 0, none⟩) hp h0).trans h.f0, (hk.frozen (p := ⟨p, 1, none⟩) hp h.c1).trans h.f1, hk.cell (p := ⟨p, 1, none⟩) hp h.c1, h.small, .inl ⟨hk.cell (p := ⟨p, 0, none⟩) hp h0, hl, hS⟩⟩
  · have hsb : sb ∉ S' := hd sb (by rw [hS]; simp)
    refine ⟨(hk.frozen (p := ⟨p, 0, none⟩) hp h0).trans h.f0, (hk.frozen (p := ⟨p, 1, none⟩) hp h.c1).trans h.f1, hk.cell (p := ⟨p, 1, none⟩) hp h.c1, h.small, .inr ⟨sb, v, hk.cell (p := ⟨p, 0, none⟩) hp h0, hk.cell (p := ⟨sb, 0, none⟩) hsb hs, (hk.frozen (p := ⟨sb, 0, none⟩) hsb hs).trans hf, hk.own ?_ hown, hne, hg, hS⟩⟩
    intro k hk'
    exact hd k (by rw [hS]; simp [hk'])

/-- the world is as it was, but for draws -/
def RetQ (v : Value) (w : World) (e : Ending) (w' : World) : Prop := e = .returned v ∧ ∃ n, w' = w.drewN n

theorem last_zero (p : Nat) (w : World) (h0 : w.cell? ⟨p, 0, none⟩ = some (.pointer none)) :
    Calls Try.prog 114 #[.pointer (some ⟨p, 0, none⟩)] w (RetQ (.bool false) w) := by
  go_enter Try.func114, Try.ntmps114
  go_wp2_with fail
  go_quiet (fail)
  go_wp2
  go_ret
  exact ⟨rfl, _, rfl⟩

theorem last_own (p sb : Nat) (a : Option Addr) (n cap : Nat) (w : World) (h0 : w.cell? ⟨p, 0, none⟩ = some (.pointer (some ⟨sb, 0, none⟩))) (h1 : w.cell? ⟨p, 1, none⟩ = some (.int .i64 n)) (hs : w.cell? ⟨sb, 0, none⟩ = some (.slice a n cap)) :
    Calls Try.prog 114 #[.pointer (some ⟨p, 0, none⟩)] w (RetQ (.bool true) w) := by
  go_enter Try.func114, Try.ntmps114
  go_wp2_with fail
  go_quiet (fail)
  go_wp2
  go_ret
  exact ⟨by simp, _, rfl⟩

theorem all_zero (p : Nat) (w : World) (h0 : w.cell? ⟨p, 0, none⟩ = some (.pointer none)) :
    Calls Try.prog 99 #[.pointer (some ⟨p, 0, none⟩)] w fun e w' => e = .returned (.slice none 0 0) ∧ w = w' := by
  go_enter Try.func99, Try.ntmps99
  go_wp2
  go_ret
  exact ⟨rfl, rfl⟩

theorem all_own (p sb : Nat) (a : Option Addr) (n cap : Nat) (l : List Int) (w : World) (h0 : w.cell? ⟨p, 0, none⟩ = some (.pointer (some ⟨sb, 0, none⟩))) (h1 : w.cell? ⟨p, 1, none⟩ = some (.int .i64 n)) (hs : w.cell? ⟨sb, 0, none⟩ = some (.slice a n cap)) (h : SlA .u8 w a n cap l) (hb : n ≤ 140737488355328) :
    Calls Try.prog 99 #[.pointer (some ⟨p, 0, none⟩)] w (RetRow n l w) := by
  have hle := h.le
  have hmost := h.most
  go_enter Try.func99, Try.ntmps99
  go_wp2
  go_region_held3 (fun w' => w'.cell? ⟨p, 0, none⟩ = some (.pointer (some ⟨sb, 0, none⟩)) ∧ w'.cell? ⟨p, 1, none⟩ = some (.int .i64 n) ∧ w'.cell? ⟨sb, 0, none⟩ = some (.slice a n cap)) (first | go_keep | exact ⟨cell_later hbel h0, cell_later hbel h1, cell_later hbel hs⟩) ((go_at_call 95; refine (fresh_any a n cap l _ h.drew hb).mono ?_; rintro e w1 ⟨v, rfl, hown, hbel⟩))
  go_wp2
  go_ret
  exact ⟨v, rfl, hown, (Below.refl _ _).drew.trans hbel⟩

/-- what is written behind -/
def WrPost (p : Nat) (S : List Nat) (l : List Int) (w : World) (e : Ending) (w' : World) : Prop :=
  e = .returned (.tuple #[]) ∧ ∃ S', Wr w' p S' l ∧ Kept (p :: S) w w' ∧ ∀ k ∈ S', k ∈ S ∨ w.heap.size ≤ k

/-- what is left behind a put: the store at sb, its row the old one or a new one -/
def PutPost (p sb : Nat) (ob : Option Nat) (l : List Int) (w : World) (e : Ending) (w' : World) : Prop :=
  e = .returned (.tuple #[]) ∧ ∃ a cap, w'.cell? ⟨p, 0, none⟩ = some (.pointer (some ⟨sb, 0, none⟩)) ∧ w'.cell? ⟨p, 1, none⟩ = some (.int .i64 l.length) ∧ w'.cell? ⟨sb, 0, none⟩ = some (.slice a l.length cap) ∧
    w'.ownsRow 0 5 1 (.slice a l.length cap) l.length (ints .u8 l) ∧ (Value.ownBlock (.slice a l.length cap) = ob ∨ ∃ g, Value.ownBlock (.slice a l.length cap) = some g ∧ w.heap.size ≤ g) ∧ (∀ g, Value.ownBlock (.slice a l.length cap) = some g → g ≠ p ∧ g ≠ sb) ∧ Kept (p :: sb :: ob.toList) w w' ∧ w'.frozen? ⟨p, 0, none⟩ = false ∧ w'.frozen? ⟨p, 1, none⟩ = false ∧ w'.frozen? ⟨sb, 0, none⟩ = false

theorem put_end (p sb : Nat) (ob : Option Nat) (l lb : List Int) (n m cap3 : Nat) (a0 : Option Addr) (cap0 : Nat) (a3 : Option Addr) (w w1 w3 : World) (hne : sb ≠ p) (hk1 : Kept [p] w w1) (hll : l.length = n) (hlb : lb.length = m)
    (hlp : p < w1.heap.size) (hls : sb < w1.heap.size) (hgp : some p ≠ ob) (hgs : some sb ≠ ob) (hgr : w1.drew.grownBy w3 ob)
    (hown3 : w3.ownsRow 0 5 1 (.slice a3 (n + m) cap3) (n + m) (ints .u8 l ++ ints .u8 lb))
    (hat3 : Value.ownBlock (.slice a3 (n + m) cap3) = ob ∨ Value.ownBlock (.slice a3 (n + m) cap3) = some w1.drew.heap.size)
    (c0 : w3.cell? ⟨p, 0, none⟩ = some (.pointer (some ⟨sb, 0, none⟩))) (c1 : w3.cell? ⟨p, 1, none⟩ = some (.int .i64 n)) (cs : w3.cell? ⟨sb, 0, none⟩ = some (.slice a0 n cap0))
    (d0 : w3.frozen? ⟨p, 0, none⟩ = false) (d1 : w3.frozen? ⟨p, 1, none⟩ = false) (ds : w3.frozen? ⟨sb, 0, none⟩ = false) :
    PutPost p sb ob (l ++ lb) w (.returned (.tuple #[])) ((w3.setCell ⟨sb, 0, none⟩ (.slice a3 (n + m) cap3)).setCell ⟨p, 1, none⟩ (.int .i64 (n + m))) := by
  have hlen : (l ++ lb).length = n + m := by simp [hll, hlb]
  have hpb : Value.ownBlock (.slice a3 (n + m) cap3) ≠ some p := by
    rcases hat3 with h | h <;> rw [h]
    · exact fun e => hgp e.symm
    · intro e; injection e with e; simp at e; omega
  have hsb : Value.ownBlock (.slice a3 (n + m) cap3) ≠ some sb := by
    rcases hat3 with h | h <;> rw [h]
    · exact fun e => hgs e.symm
    · intro e; injection e with e; simp at e; omega
  unfold PutPost
  rw [hlen]
  refine ⟨rfl, a3, cap3, ?_, ?_, ?_, ?_, ?_, fun g hg => ⟨fun e => hpb (by rw [hg, e]), fun e => hsb (by rw [hg, e])⟩, ?_, by simpa using d0, by simpa using d1, by simpa using ds⟩
  · exact (set_other (by simp)).trans ((set_other (by simp)).trans c0)
  · have : (w3.setCell ⟨sb, 0, none⟩ (.slice a3 (n + m) cap3)).cell? ⟨p, 1, none⟩ = some (.int .i64 n) := (set_other (by simp)).trans c1
    rw [set_same this]
    simp
  · exact (set_other (by simp)).trans (set_same cs)
  · rw [ints_append]
    exact ownsRow_setCell_other (ownsRow_setCell_other hown3 hsb _) hpb _
  · rcases hat3 with h | h
    · exact .inl h
    · exact .inr ⟨_, h, by have := hk1.size; simpa using this⟩
  · refine ((((hk1.mono (by simp)).drew).grown hgr ?_).setCell (.inl (by simp)) _).setCell (.inl (by simp)) _
    intro k hk
    exact .inl (by simp [hk])

set_option maxHeartbeats 800000 in
theorem put_own (p sb : Nat) (a0 : Option Addr) (n cap0 : Nat) (l : List Int) (a : Option Addr) (m cap : Nat) (lb : List Int) (w : World)
    (h0 : w.cell? ⟨p, 0, none⟩ = some (.pointer (some ⟨sb, 0, none⟩))) (h1 : w.cell? ⟨p, 1, none⟩ = some (.int .i64 n)) (hs : w.cell? ⟨sb, 0, none⟩ = some (.slice a0 n cap0))
    (f0 : w.frozen? ⟨p, 0, none⟩ = false) (f1 : w.frozen? ⟨p, 1, none⟩ = false) (fs : w.frozen? ⟨sb, 0, none⟩ = false) (hne : sb ≠ p)
    (hown : w.ownsRow 0 5 1 (.slice a0 n cap0) n (ints .u8 l)) (hg : ∀ g, Value.ownBlock (.slice a0 n cap0) = some g → g ≠ p ∧ g ≠ sb)
    (hb : SlA .u8 w a m cap lb) (hr : n + m ≤ 140737488355328) :
    Calls Try.prog 100 #[.pointer (some ⟨p, 0, none⟩), .slice a m cap] w
      (PutPost p sb (Value.ownBlock (.slice a0 n cap0)) (l ++ lb) w) := by
  obtain ⟨i0, hi, hz0, hz1, hz2⟩ := info_parts info5
  go_enter Try.func100, Try.ntmps100
  go_wp2_with fail
  refine (last_own p sb a0 n cap0 w h0 h1 hs).mono ?_
  rintro e w1 ⟨rfl, nq, hw1⟩
  have hk1 : Kept [] w w1 := by rw [hw1]; exact (Kept.refl _ _).drewN _
  clear hw1
  have g0 := hk1.cell (by simp) h0
  have g1 := hk1.cell (by simp) h1
  have gs := hk1.cell (by simp) hs
  have gf0 := (hk1.frozen (by simp) h0).trans f0
  have gf1 := (hk1.frozen (by simp) h1).trans f1
  have gfs := (hk1.frozen (by simp) hs).trans fs
  have gown := hk1.own (by simp) hown
  have gb := (hb.keep hk1 (by simp)).drew.src Try.underlying26
  have hlp := World.block_lt_of_cell? w1 _ g0
  have hls := World.block_lt_of_cell? w1 _ gs
  have hgp : some p ≠ Value.ownBlock (.slice a0 n cap0) := fun e => (hg p e.symm).1 rfl
  have hgs : some sb ≠ Value.ownBlock (.slice a0 n cap0) := fun e => (hg sb e.symm).2 rfl
  have hll : l.length = n := by simpa [ints] using gown.1
  have hlb := hb.len
  clear h0 h1 hs f0 f1 fs hown hb hg
  go_wp2_with fail
  have gownd : w1.drew.ownsRow 0 5 1 (.slice a0 n cap0) n (ints .u8 l) := ((Kept.refl [] w1).drew).own (by simp) gown
  have gapp : ints .u8 l ++ ints .u8 lb = ints .u8 (l ++ lb) := (ints_append _ _ _).symm
  obtain ⟨ob, hob⟩ : ∃ ob, Value.ownBlock (.slice a0 n cap0) = ob := ⟨_, rfl⟩
  rw [hob] at hgp hgs ⊢
  have HOB := Lib.hid hob
  clear hob
  go_region_law ((refine step_append_any _ rfl (.tmp 24) (.tmp 25) 26 26 rfl 0 5 i0 (.int .u8 0) 1 Try.underlying26 hi hz0 hz1 hz2 rfl (.slice a0 n cap0) n (ints .u8 l) rfl gownd (.slice a m cap) rfl m (ints .u8 lb) gb (by unfold maxLen; omega) (by omega) (Nat.zero_le _) ?_; intro a3 cap3 w3 hown3 hgr hat3; rw [HOB.out] at hgr hat3; have c0 := (hgr.cell_far ⟨p, 0, none⟩ hlp hgp).trans g0; have c1 := (hgr.cell_far ⟨p, 1, none⟩ hlp hgp).trans g1; have cs := (hgr.cell_far ⟨sb, 0, none⟩ hls hgs).trans gs; have cf0 := (hgr.frozen_far ⟨p, 0, none⟩ hlp hgp).trans gf0; have cf1 := (hgr.frozen_far ⟨p, 1, none⟩ hlp hgp).trans gf1; have cfs := (hgr.frozen_far ⟨sb, 0, none⟩ hls hgs).trans gfs))
  all_goals
    go_wp2
    go_end0
    have := put_end p sb ob l lb n m cap3 a0 cap0 a3 w w1 w3 hne (hk1.mono (by simp)) hll hlb hlp hls hgp hgs hgr hown3 hat3 c0 c1 cs cf0 cf1 cfs
    rw [HOB.out]
    exact this

def PutZ (p : Nat) (lb : List Int) (w : World) (e : Ending) (w' : World) : Prop := ∃ sb, w.heap.size ≤ sb ∧ PutPost p sb none lb w e w'

set_option maxHeartbeats 1600000 in
theorem put_zero (p : Nat) (a : Option Addr) (m cap : Nat) (lb : List Int) (w : World)
    (h0 : w.cell? ⟨p, 0, none⟩ = some (.pointer none)) (h1 : w.cell? ⟨p, 1, none⟩ = some (.int .i64 0)) (f0 : w.frozen? ⟨p, 0, none⟩ = false) (f1 : w.frozen? ⟨p, 1, none⟩ = false)
    (hb : SlA .u8 w a m cap lb) (hbp : ∀ x, a = some x → 0 < cap → x.block ≠ p) (hr : m ≤ 140737488355328) :
    Calls Try.prog 100 #[.pointer (some ⟨p, 0, none⟩), .slice a m cap] w
      (PutZ p lb w) := by
  obtain ⟨i0, hi, hz0, hz1, hz2⟩ := info_parts info5
  have hpw := World.block_lt_of_cell? w _ h0
  go_enter Try.func100, Try.ntmps100
  go_wp2_with fail
  refine (last_zero p w h0).mono ?_
  rintro e wz ⟨rfl, nq, hw1⟩
  have hkz : Kept [] w wz := by rw [hw1]; exact (Kept.refl _ _).drewN _
  clear hw1
  have z0 := hkz.cell (by simp) h0
  have z1 := hkz.cell (by simp) h1
  have zf0 := (hkz.frozen (by simp) h0).trans f0
  have zf1 := (hkz.frozen (by simp) h1).trans f1
  have hpz := World.block_lt_of_cell? wz _ z0
  have hsz := hkz.size
  clear h0 h1 f0 f1
  go_wp2_with fail
  refine (all_zero p wz z0).mono ?_
  rintro e w' ⟨rfl, rfl⟩
  go_wp2_with fail
  obtain ⟨sb, hsb⟩ : ∃ sb, wz.heap.size = sb := ⟨_, rfl⟩
  rw [hsb]
  obtain ⟨w1, hw1⟩ : ∃ w1, (wz.setCell ⟨p, 0, none⟩ (.pointer (some ⟨sb, 0, none⟩))).alloc (.cells #[.slice none 0 0] 133) = w1 := ⟨_, rfl⟩
  rw [hw1]
  have hne : sb ≠ p := by omega
  have hk1 : Kept [p] w w1 := by rw [← hw1]; exact ((hkz.mono (by simp)).setCell (.inl (by simp)) _).alloc _
  have g0 : w1.cell? ⟨p, 0, none⟩ = some (.pointer (some ⟨sb, 0, none⟩)) := by rw [← hw1]; exact (World.cell?_alloc_past _ _ _ (by simpa using hpz)).trans (set_same z0)
  have g1 : w1.cell? ⟨p, 1, none⟩ = some (.int .i64 0) := by rw [← hw1]; exact (World.cell?_alloc_past _ _ _ (by simpa using hpz)).trans ((set_other (by simp)).trans z1)
  have gs : w1.cell? ⟨sb, 0, none⟩ = some (.slice none 0 0) := by rw [← hw1]; exact (World.cell?_alloc_at _ _ _ _ (by simp [hsb])).trans rfl
  have gf0 : w1.frozen? ⟨p, 0, none⟩ = false := by rw [← hw1]; exact (World.frozen?_alloc_past _ _ _ (by simpa using hpz)).trans (by simpa using zf0)
  have gf1 : w1.frozen? ⟨p, 1, none⟩ = false := by rw [← hw1]; exact (World.frozen?_alloc_past _ _ _ (by simpa using hpz)).trans (by simpa using zf1)
  have gfs : w1.frozen? ⟨sb, 0, none⟩ = false := by rw [← hw1]; exact World.frozen?_alloc_at _ _ _ _ (by simp [hsb])
  have gb := (hb.keepIf hk1 (fun x hx h => by simpa using hbp x hx h)).drew.src Try.underlying26
  have hlp := World.block_lt_of_cell? w1 _ g0
  have hls := World.block_lt_of_cell? w1 _ gs
  have hlb := hb.len
  have gownd : w1.drew.ownsRow 0 5 1 (.slice none 0 0) 0 [] := World.ownsRow_nil _ _ _ _
  have hgp : some p ≠ none := by simp
  have hgs : some sb ≠ none := by simp
  have hsbw : w.heap.size ≤ sb := by omega
  clear z0 z1 zf0 zf1 hw1 hsb hbp hb
  go_region_law ((refine step_append_any _ rfl (.tmp 24) (.tmp 25) 26 26 rfl 0 5 i0 (.int .u8 0) 1 Try.underlying26 hi hz0 hz1 hz2 rfl (.slice none 0 0) 0 [] rfl gownd (.slice a m cap) rfl m (ints .u8 lb) gb (by unfold maxLen; omega) (by omega) (Nat.zero_le _) ?_; intro a3 cap3 w3 hown3 hgr hat3; change w1.drew.grownBy w3 none at hgr; have c0 := (hgr.cell_far ⟨p, 0, none⟩ hlp hgp).trans g0; have c1 := (hgr.cell_far ⟨p, 1, none⟩ hlp hgp).trans g1; have cs := (hgr.cell_far ⟨sb, 0, none⟩ hls hgs).trans gs; have cf0 := (hgr.frozen_far ⟨p, 0, none⟩ hlp hgp).trans gf0; have cf1 := (hgr.frozen_far ⟨p, 1, none⟩ hlp hgp).trans gf1; have cfs := (hgr.frozen_far ⟨sb, 0, none⟩ hls hgs).trans gfs))
  all_goals
    simp only [Nat.zero_add, List.nil_append] at hown3 hat3 ⊢
    go_wp2
    go_end0
    have := put_end p sb none [] lb 0 m cap3 none 0 a3 w w1 w3 hne hk1 rfl hlb hlp hls hgp hgs hgr (by simpa [ints] using hown3) (by simpa [Value.ownBlock] using hat3) c0 c1 cs cf0 cf1 cfs
    simp only [Nat.zero_add, List.nil_append] at this
    exact ⟨sb, hsbw, by simpa using this⟩
end Go.Proofs.Ytdfenlagokndkaa.oc
