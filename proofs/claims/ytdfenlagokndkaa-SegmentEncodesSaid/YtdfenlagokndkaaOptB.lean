/-
  Package option: the blocks that are ahead.
-/
import Derived.Test.YtdfenlagokndkaaOptR
namespace Go.Proofs.Ytdfenlagokndkaa.op
open Go.RowKit aid mem oc
set_option linter.unusedVariables false

theorem info_bl : (Try.prog.info? 99).map (fun i => (i.zero, i.size, i.bytes)) = some (some (.agg #[.int .u32 0, .int .u32 0]), 2, 8) := by kernel_rfl

def blCells (l : List (Int × Int)) : List Value := l.flatMap fun q => [.int .u32 q.1, .int .u32 q.2]
theorem blCells_snoc (l : List (Int × Int)) (q : Int × Int) : blCells (l ++ [q]) = blCells l ++ [.int .u32 q.1, .int .u32 q.2] := by simp [blCells]
theorem blCells_len (l : List (Int × Int)) : (blCells l).length = l.length * 2 := by
  induction l with
  | nil => rfl
  | cons q l ih => simp only [blCells, List.flatMap_cons, List.length_append] at ih ⊢; simp [ih]; omega
theorem blCells_at : ∀ (l : List (Int × Int)) (i : Nat), i < l.length → (blCells l)[i * 2]? = some (.int .u32 (l.getD i (0, 0)).1) ∧ (blCells l)[i * 2 + 1]? = some (.int .u32 (l.getD i (0, 0)).2)
  | [], i, h => by simp at h
  | q :: l, 0, _ => by simp [blCells]
  | q :: l, i + 1, h => by
    have := blCells_at l i (by simpa using h)
    have e : blCells (q :: l) = .int .u32 q.1 :: .int .u32 q.2 :: blCells l := by simp [blCells]
    rw [e, show (i + 1) * 2 = i * 2 + 1 + 1 by omega]
    simpa using this

/-- a row of blocks of one's own is a slice of blocks -/
theorem bl_of_own {w : World} {base : Nat} {e : TypeId} {v : Value} {n : Nat} {l : List (Int × Int)} (h : w.ownsRow base e 2 v n (blCells l)) :
    ∃ a cap, v = .slice a n cap ∧ BlA w a n cap l ∧ ∀ x, a = some x → v.ownBlock = some x.block := by
  have hl : l.length = n := by have := h.1; rw [blCells_len] at this; omega
  rcases h.2 with ⟨rfl, rfl⟩ | ⟨g, cap, cur, rfl, hb, hg, hn, hm, hc, ht⟩
  · exact ⟨none, 0, rfl, ⟨hl, Nat.le_refl _, by unfold maxLen; omega, fun _ => rfl, fun h => by omega⟩, fun _ h => by cases h⟩
  · refine ⟨some ⟨g, 0, none⟩, cap, rfl, ⟨hl, hn, hm, (fun h => by cases h), fun _ => ⟨g, 0, rfl, fun i hi => ?_⟩⟩, fun x hx => by injection hx with hx; subst hx; rfl⟩
    have key : ∀ j, j < n * 2 → w.cell? ⟨g, 0 + j, none⟩ = (blCells l)[j]? := by
      intro j hj
      rw [cell_of_row w g _ cur e (0, 0) hg, ← ht, List.getElem?_take, if_pos hj]
      simp
    have hat := blCells_at l i (by omega)
    exact ⟨(key (i * 2) (by omega)).trans hat.1, by rw [Nat.add_assoc]; exact (key (i * 2 + 1) (by omega)).trans hat.2⟩

/-- how many bytes are ahead of a reader at p -/
def rdlen (w : World) (p : Nat) : Nat := match w.cell? ⟨p, 0, none⟩ with
  | some (.slice _ n _) => n
  | _ => 0
theorem rdlen_of {w : World} {p : Nat} {S : List Nat} {l : List Int} (h : Rd w p S l) : rdlen w p = l.length := by
  obtain ⟨a, cap, hc, _⟩ := h.ex
  unfold rdlen
  rw [hc]

theorem blks_cons {l : List Int} {n : Nat} (h : l.length = 8 * (n + 1)) : ∃ a b c d e f g i r, l = a :: b :: c :: d :: e :: f :: g :: i :: r ∧ r.length = 8 * n := by
  match l, h with
  | a :: b :: c :: d :: e :: f :: g :: i :: r, h => exact ⟨a, b, c, d, e, f, g, i, r, rfl, by simp only [List.length_cons] at h; omega⟩

/-- a new reader, whose bytes lie in new memory -/
def NewLt (l : List Int) (w : World) (e : Ending) (w' : World) : Prop :=
  ∃ p S, e = .returned (.pointer (some ⟨p, 0, none⟩)) ∧ Rd w' p S l ∧ w.heap.size ≤ p ∧ (∀ x ∈ S, w.heap.size ≤ x ∧ x < w'.heap.size) ∧ p < w'.heap.size ∧ Below w.heap.size w w'
theorem new_lt (a : Option Addr) (n cap : Nat) (l : List Int) (w : World) (h : SlA .u8 w a n cap l) (hb : n ≤ 140737488355328) :
    Calls Try.prog 67 #[.slice a n cap] w (NewLt l w) := by
  go_enter Try.func67, Try.ntmps67
  go_wp2_with fail
  refine (fresh_any a n cap l w h hb).mono ?_
  rintro e w1 ⟨v, rfl, hown, hbel⟩
  have hll := h.len
  obtain ⟨a1, cap1, hv, hsl, hblk⟩ := sl_of_own hown
  have hlt := hown.lt
  rw [hv]
  rw [hv] at hblk hlt
  clear hown hv
  go_wp2_with fail
  go_ret
  have hsz := hbel.size
  subst hll
  refine ⟨w1.heap.size, (Value.ownBlock (.slice a1 l.length cap1)).toList, rfl, ⟨?_, ⟨a1, cap1, ?_, hsl.later ((Below.refl _ _).alloc (Nat.le_refl _) _), fun x hx => by simp [hblk x hx]⟩, ?_, hb⟩, hsz, ?_, by simp, hbel.trans ((Below.refl _ _).alloc hsz _)⟩
  · exact World.frozen?_alloc_at _ _ _ _ rfl
  · exact World.cell?_alloc_at _ _ _ _ rfl
  · intro hx
    have := hlt _ (Option.mem_toList.1 hx)
    omega
  · intro x hx
    have := hlt x (Option.mem_toList.1 hx)
    simp
    omega

/-- blocks, in new memory -/
def BlkPost (p : Nat) (bl : List (Int × Int)) (m : Nat) (w : World) (e : Ending) (w' : World) : Prop :=
  ∃ a cap, e = .returned (.slice a m cap) ∧ w'.ownsRow w.heap.size 99 2 (.slice a m cap) m (blCells bl) ∧ Kept [p] w w'

set_option maxRecDepth 100000 in
set_option maxHeartbeats 1600000 in
theorem blocks_any (p : Nat) (S : List Nat) (l : List Int) (m : Nat) (w : World) (hr : Rd w p S l) (hb : Bd l) (hl : l.length = 8 * m) (hm4 : m ≤ 4) (hS : ∀ x ∈ S, x < w.heap.size) (hp : p < w.heap.size) :
    Calls Try.prog 117 #[.pointer (some ⟨p, 0, none⟩)] w (BlkPost p (blks l) m w) := by
  obtain ⟨i0, hi, hz0, hz1, hz2⟩ := info_parts info_bl
  have hbl := Lib.hid (blks_len m l hl)
  go_enter Try.func117, Try.ntmps117
  go_wp2
  go_loopw [3] (fun v wr => ∃ (done : List (Int × Int)) (rest : List Int) (k q : Nat) (a : Option Addr) (cap : Nat), v = .slice a k cap ∧ Hid (done.length = k) ∧ Hid (rest.length = 8 * q) ∧ k + q = m ∧ Hid (done ++ blks rest = blks l) ∧ Hid (Bd rest) ∧ Rd wr p S rest ∧ wr.ownsRow w.heap.size 99 2 (.slice a k cap) k (blCells done) ∧ Kept [p] w wr) (fun _ wr => rdlen wr p)
  case atStart => exact ⟨[], l, 0, m, none, 0, rfl, Lib.hid rfl, Lib.hid hl, by omega, Lib.hid rfl, Lib.hid hb, hr, World.ownsRow_nil _ _ _ _, Kept.refl _ _⟩
  case round =>
    obtain ⟨done, rest, k, q, a, cap, rfl, HD, HR, hkq, HE, HB, hr', hown, hk⟩ := hrel
    clear hr hl hb
    have hsz := hk.size
    cases q with
    | zero =>
      obtain rfl : rest = [] := List.eq_nil_of_length_eq_zero (by rw [HR.out])
      obtain rfl : k = m := by omega
      go_wp2_with fail
      refine (left_any p S [] wr hr').mono ?_
      rintro e w' ⟨rfl, rfl⟩
      go_wp2_with fail
      go_ret
      have e : done = blks l := by have := HE.out; simpa [blks] using this
      exact ⟨a, cap, rfl, by rw [← e]; exact hown, hk⟩
    | succ q =>
      obtain ⟨b0, b1, b2, b3, b4, b5, b6, b7, r, rfl, hrl⟩ := blks_cons HR.out
      have hb := HB.out
      have hr2 := Lib.hid hrl
      have hb2 : Bd (b4 :: b5 :: b6 :: b7 :: r) := fun x hx => hb x (by simp only [List.mem_cons] at hx ⊢; simp [hx])
      have hb3 : Bd r := fun x hx => hb x (by simp [hx])
      have HB0 := Lib.hid hb
      have HB2 := Lib.hid hb2
      have HB3 := Lib.hid hb3
      have hlp : (0 : Int) < ((b0 :: b1 :: b2 :: b3 :: b4 :: b5 :: b6 :: b7 :: r).length : Int) := by simp; omega
      have hrd0 : rdlen wr p = (b0 :: b1 :: b2 :: b3 :: b4 :: b5 :: b6 :: b7 :: r).length := rdlen_of hr'
      have HRD0 := Lib.hid hrd0
      have he : done ++ [(n4 b0 b1 b2 b3, n4 b4 b5 b6 b7)] ++ blks r = blks l := by
        rw [← HE.out]
        simp [blks]
      have HE2 := Lib.hid he
      clear hrl hb hb2 hb3 hrd0 he HE HB
      obtain ⟨L, hL⟩ : ∃ L, (b0 :: b1 :: b2 :: b3 :: b4 :: b5 :: b6 :: b7 :: r).length = L := ⟨_, rfl⟩
      have HLL := Lib.hid hL
      rw [hL] at hlp
      have hlx : ((b0 :: b1 :: b2 :: b3 :: b4 :: b5 :: b6 :: b7 :: r).length : Int) = (L : Int) := by rw [hL]
      go_wp2_with fail
      refine (left_any p S _ wr hr').mono ?_
      rintro e w' ⟨rfl, rfl⟩
      rw [hlx]
      clear hlx hL
      go_wp2_with fail
      refine (rfour_cons p S b0 b1 b2 b3 _ wr hr' HB0.out).mono ?_
      rintro e w1 ⟨rfl, hr1, hk1⟩
      go_wp2_with fail
      refine (rfour_cons p S b4 b5 b6 b7 r w1 hr1 HB2.out).mono ?_
      rintro e w2 ⟨rfl, hr2', hk2⟩
      have hk12 : Kept [p] w w2 := (hk.trans hk1 (fun x hx => .inl hx)).trans hk2 (fun x hx => .inl hx)
      have z12 := hk12.size
      have hlt := hown.lt
      have hpb : ∀ g, Value.ownBlock (.slice a k cap) = some g → g ∉ [p] := by
        intro g hg hm
        have := (hlt g hg).1
        rw [List.mem_singleton] at hm
        omega
      have hown2 := hk2.own hpb (hk1.own hpb hown)
      obtain ⟨X, hX⟩ : ∃ X, n4 b0 b1 b2 b3 = X := ⟨_, rfl⟩
      obtain ⟨Y, hY⟩ : ∃ Y, n4 b4 b5 b6 b7 = Y := ⟨_, rfl⟩
      rw [hX, hY] at HE2
      rw [hX, hY]
      have hnews : ∀ j u, [Value.int .u32 X, Value.int .u32 Y][j]? = some u → (w2.alloc (.cells #[.int .u32 X, .int .u32 Y] 99)).cell? ((⟨w2.heap.size, 0, none⟩ : Addr).add j) = some u := by
        intro j u hu
        have hj : j < 2 := by simpa using (List.getElem?_eq_some_iff.1 hu).1
        have hadd : (⟨w2.heap.size, 0, none⟩ : Addr).add j = ⟨w2.heap.size, j, none⟩ := by unfold Addr.add; split <;> simp_all
        rw [hadd]
        refine (World.cell?_alloc_at _ _ _ _ rfl).trans ?_
        rcases (show j = 0 ∨ j = 1 by omega) with rfl | rfl <;> simpa using hu
      have HN := Lib.hid hnews
      clear hX hY hr' hr1 hk hk1 hk2 hown hlt hnews HB0 HB2 hsz
      have hrd2 : rdlen w2 p = r.length := rdlen_of hr2'
      go_wp2_with (at_builtin; refine wpList_append_own _ rfl (.tmp 21) (.tmp 25) 23 rfl w.heap.size 99 i0 (.agg #[.int .u32 0, .int .u32 0]) 2 8 Try.underlying23 hi hz0 hz1 hz2 rfl (by decide) (.slice a k cap) k (blCells done) rfl (hown2.alloc _) ⟨w2.heap.size, 0, none⟩ 1 1 [.int .u32 X, .int .u32 Y] rfl rfl HN.out (by simp [Value.oneCell']) (by unfold maxLen; omega) (by omega) (by simp; omega) ?_; intro v3 w3 hown3 hgr hnil)
      obtain ⟨a', cap', rfl⟩ := own_form hown3
      have hlt2 := hown2.lt
      have hk3 : Kept [p] w w3 := (hk12.alloc _).grown hgr (fun g hg => .inr (hlt2 g hg).1)
      have hk23 : Kept (Value.ownBlock (.slice a k cap)).toList w2 w3 := ((Kept.refl _ w2).alloc _).grown hgr (fun g hg => .inl (by rw [hg]; simp))
      have hr3 : Rd w3 p S r := hr2'.keep hk23 (fun h => by have := (hlt2 p (Option.mem_toList.1 h)).1; omega) (fun x hx h => by
        have := (hlt2 x (Option.mem_toList.1 h)).1
        have := hS x hx
        omega)
      have hrd3 : rdlen w3 p = r.length := rdlen_of hr3
      have hd1 := HD.out
      go_roundw
      case rel => exact ⟨done ++ [(X, Y)], r, k + 1, q, a', cap', rfl, Lib.hid (by rw [List.length_append, List.length_singleton, HD.out]), hr2, by omega, HE2, HB3, hr3, by rw [blCells_snoc]; exact hown3, hk3⟩
      case measure => rw [hrd3, HRD0.out]; simp only [List.length_cons]; omega
end Go.Proofs.Ytdfenlagokndkaa.op
