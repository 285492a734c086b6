/-
  Alarms: New; the law's same, known.
-/
import Derived.Test.YtnioaaahkhephaaAlmE
namespace Go.Proofs.Ytnioaaahkhephaa.al
open Go.RowKit Go.Maps aid mem
attribute [local go_sem ↓] Go.wp_at_zero Go.wp_at_succ
set_option linter.unusedVariables false
set_option linter.unusedSimpArgs false

theorem lt_anti {x y : Al} (h : lt x y = false) (k : lt y x = false) : x = y := by
  rw [nlt_iff] at *
  exact Prod.ext (by omega) (by omega)
theorem srt_unique : ∀ {l r : List Al}, l.Perm r → l.Pairwise (fun a b => lt b a = false) → r.Pairwise (fun a b => lt b a = false) → l = r := by
  intro l
  induction l with
  | nil => intro r hp _ _; exact (List.perm_nil.1 hp.symm).symm
  | cons a l ih =>
    intro r hp hl hr
    cases r with
    | nil => exact absurd hp.length_eq (by simp)
    | cons b r =>
      rw [List.pairwise_cons] at hl hr
      have e : a = b := by
        rcases List.mem_cons.1 (hp.mem_iff.1 (by simp : a ∈ a :: l)) with e | e
        · exact e
        · rcases List.mem_cons.1 (hp.mem_iff.2 (by simp : b ∈ b :: r)) with e2 | e2
          · exact e2.symm
          · exact lt_anti (hr.1 a e) (hl.1 b e2)
      subst e
      rw [ih (List.perm_cons a |>.1 hp) hl.2 hr.2]
theorem hd_least {l : List Al} (hh : HeapN l l.length) (hl : 0 < l.length) {x : Al} (hx : x ∈ l) (hm : ∀ y ∈ l, lt y x = false) : hd l = (x.1, x.2, true) := by
  obtain ⟨i, hi, rfl⟩ := mem_g hx
  rw [hd_cons hl, lt_anti (hm _ (g_mem hl)) (heap_least hh i hi)]
theorem Ck.hd {C : Nat} {nm now : Int} {l : List Al} {S : List Nat} {w : World} (h : Ck C nm now l S w) {x : Al} (hx : x ∈ l) (hm : ∀ y ∈ l, al.lt y x = false) : al.hd l = (x.1, x.2, true) := by
  obtain ⟨v, bm, D, q, p, hh, _⟩ := h
  refine hd_least hh ?_ hx hm
  cases l with
  | nil => cases hx
  | cons y l => simp
/-- a new clock -/
def NewPost (nm : Int) (w : World) (e : Ending) (w' : World) : Prop :=
  ((nm < 1 ∨ 64 < nm) ∧ e = .returned (.tuple #[.pointer none, .int .i64 2]) ∧ w = w') ∨
  (¬ (nm < 1 ∨ 64 < nm) ∧ ∃ C S, e = .returned (.tuple #[.pointer (some ⟨C, 0, none⟩), .int .i64 0]) ∧ Ck C nm 0 [] S w' ∧ Below w.heap.size w w' ∧ ∀ b ∈ S, w.heap.size ≤ b)
theorem newq_any (w : World) : Calls Try.prog 21 #[] w (fun e w' => ∃ bm, e = .returned (.agg #[.slice none 0 0, .map (some bm)]) ∧ w'.heap[bm]? = some (.map #[] 0) ∧ Below w.heap.size w w' ∧ w.heap.size ≤ bm) := by
  have hmm := @run_makeMap Try.prog
  have b1 := bal (w := w) (.cells #[.slice none 0 0, .map none] 59)
  have x1 := heap_alloc_new w (.cells #[.slice none 0 0, .map none] 59)
  go_enter Try.func21, Try.ntmps21
  have b2 := bal (w := w) (.cells #[.slice none 0 0, .map (some (w.heap.size + 1))] 59)
  have x2 := heap_alloc_new w (.cells #[.slice none 0 0, .map (some (w.heap.size + 1))] 59)
  have hz2 : (w.alloc (.cells #[.slice none 0 0, .map (some (w.heap.size + 1))] 59)).heap.size = w.heap.size + 1 := by simp
  have b3 := bal (w := w.alloc (.cells #[.slice none 0 0, .map (some (w.heap.size + 1))] 59)) (.map #[] 0)
  have x3 : ((w.alloc (.cells #[.slice none 0 0, .map (some (w.heap.size + 1))] 59)).alloc (.map #[] 0)).heap[w.heap.size + 1]? = some (.map #[] 0) := by
    have := (MapKept.heap_alloc (w.alloc (.cells #[.slice none 0 0, .map (some (w.heap.size + 1))] 59)) (.map #[] 0)).1
    rwa [hz2] at this
  have x4 := (b3.block _ (lt_of_block x2)).trans x2
  have d0 := cofr x4 0 _ rfl
  have d1 := cofr x4 1 _ rfl
  have HF := Lib.hid (And.intro x3 (And.intro (b2.trans (b3.mono b2.size)) (Nat.le_succ w.heap.size)))
  clear b2 x2 hz2 b3 x3 x4
  go_wp2_with fail
  exact bodyPost_ret (v := .agg #[.slice none 0 0, .map (some (w.heap.size + 1))]) (by simp [results, Try.results21, go_sem, d0, d1]) rfl ⟨_, rfl, HF.out.1, HF.out.2.1, HF.out.2.2⟩
set_option maxHeartbeats 1000000 in
theorem new_any (w : World) (nm : Int) (hn : -9223372036854775808 ≤ nm ∧ nm ≤ 9223372036854775807) : Calls Try.prog 8 #[.int .i64 nm] w (NewPost nm w) := by
  by_cases h1 : nm < 1
  · have HF := Lib.hid (show NewPost nm w (.returned (.tuple #[.pointer none, .int .i64 2])) w from .inl ⟨.inl h1, rfl, rfl⟩)
    go_enter Try.func8, Try.ntmps8
    go_wp2_with fail
    go_ret2
    exact HF.out
  by_cases h2 : 64 < nm
  · have HF := Lib.hid (show NewPost nm w (.returned (.tuple #[.pointer none, .int .i64 2])) w from .inl ⟨.inr h2, rfl, rfl⟩)
    go_enter Try.func8, Try.ntmps8
    go_wp2_with fail
    go_ret2
    exact HF.out
  have HE := Lib.hid (show ¬ (nm < 1 ∨ 64 < nm) by omega)
  go_enter Try.func8, Try.ntmps8
  go_wp2_with fail
  refine (newq_any _).mono ?_
  rintro e w1 ⟨bm, rfl, hm, hb, hbm⟩
  have b2 := bal (w := w1) (.cells #[.int .i64 nm, .int .i64 0, .slice none 0 0, .map (some bm)] 62)
  have x2 := heap_alloc_new w1 (.cells #[.int .i64 nm, .int .i64 0, .slice none 0 0, .map (some bm)] 62)
  have hm2 := (b2.block _ (lt_of_block hm)).trans hm
  have HF := Lib.hid (show NewPost nm w (.returned (.tuple #[.pointer (some ⟨w1.heap.size, 0, none⟩), .int .i64 0])) (w1.alloc (.cells #[.int .i64 nm, .int .i64 0, .slice none 0 0, .map (some bm)] 62)) from
    .inr ⟨HE.out, _, _, rfl, ⟨.slice none 0 0, bm, .map [], ⟨x2, World.ownsRow_nil _ _ _ _, ⟨#[], 0, hm2, ⟨by simp, MapKept.stamped_empty 0, by simp⟩, by simp [Maps.size], rfl⟩⟩, pl_nil, (fun k k0 hk => by simp at hk), rfl⟩, hb.trans (b2.mono hb.size), fun b hb' => by
      rcases List.mem_cons.1 hb' with rfl | hb'
      · exact hb.size
      · rcases List.mem_cons.1 hb' with rfl | hb'
        · exact hbm
        · simp [blkV, Value.ownBlock] at hb'⟩)
  clear hm hb hbm b2 x2 hm2
  go_wp2_with fail
  go_ret2
  exact HF.out
set_option maxHeartbeats 1000000 in
theorem same_any {w : World} {a b : Option Addr} {n m c d : Nat} {l r : List Int} (ho : SlA .i64 w a n c l) (hq : SlA .i64 w b m d r) :
    Calls Try.prog 14 #[.slice a n c, .slice b m d] w (RetB (decide (l = r)) w) := by
  have hmo := ho.most
  have hleo := ho.le
  have hmq := hq.most
  have hleq := hq.le
  have hl1 := ho.len
  have hl2 := hq.len
  unfold maxLen at hmo hmq
  have HC := Lib.hid (fun h0 => ho.cells h0)
  have HD := Lib.hid (fun h0 => hq.cells h0)
  clear ho hq
  by_cases hnm : n = m
  · subst hnm
    go_enter Try.func14, Try.ntmps14
    go_wp2_with fail
    go_loopw [5] (fun s5 wr => ∃ k : Nat, k ≤ n ∧ s5 = .int .i64 k ∧ Hid (l.take k = r.take k) ∧ Below w.heap.size w wr) (fun s5 _ => n - (intOf s5).toNat)
    case atStart => exact ⟨0, Nat.zero_le _, rfl, Lib.hid rfl, Below.refl _ _⟩
    case round =>
      obtain ⟨k, hk, rfl, HT, hbw⟩ := hrel
      by_cases hlt : k < n
      · obtain ⟨g1, o1, rfl, hc1⟩ := HC.out (by omega)
        obtain ⟨g2, o2, rfl, hc2⟩ := HD.out (by omega)
        have m0 := hc1 k hlt
        have m1 := hc2 k hlt
        replace m0 := (hbw.cell (World.block_lt_of_cell? w _ m0)).trans m0
        replace m1 := (hbw.cell (World.block_lt_of_cell? w _ m1)).trans m1
        have HST : Hid (l.take (k + 1) = r.take (k + 1) ↔ l.getD k 0 = r.getD k 0) := Lib.hid (by
          have h1 : k < l.length := by omega
          have h2 : k < r.length := by omega
          rw [List.take_succ_eq_append_getElem h1, List.take_succ_eq_append_getElem h2, HT.out, List.append_cancel_left_eq, List.cons.injEq]
          simp only [and_true]
          simp [List.getD, h1, h2])
        have HB := Lib.hid hbw
        clear hc1 hc2 hbw
        generalize l.getD k 0 = x at *
        generalize r.getD k 0 = y at *
        by_cases hxy : x = y
        · subst hxy
          have HT2 := Lib.hid (HST.out.2 rfl)
          clear HST HT
          go_wp2_with fail
          go_quiet (fail)
          go_wp2
          go_roundw
          case rel => exact ⟨k + 1, by omega, by go_num, HT2, HB.out.trans ⟨rfl, rfl, rfl, Nat.le_refl _, fun _ _ => rfl⟩⟩
          case measure => simp [intOf]; omega
        · have HF : Hid (decide (l = r) = false) := Lib.hid (decide_eq_false (fun e => hxy (HST.out.1 (by rw [e]))))
          clear HST HT
          go_wp2_with fail
          go_quiet (fail)
          go_wp2
          go_ret
          exact ⟨by rw [HF.out]; rfl, HB.out.trans ⟨rfl, rfl, rfl, Nat.le_refl _, fun _ _ => rfl⟩⟩
      · obtain rfl : k = n := by omega
        have HF : Hid (decide (l = r) = true) := Lib.hid (decide_eq_true (by have := HT.out; rwa [List.take_of_length_le (by omega), List.take_of_length_le (by omega)] at this))
        have HB := Lib.hid hbw
        clear HC HD HT hbw
        go_wp2
        go_ret
        exact ⟨by rw [HF.out]; rfl, HB.out⟩
  · have HF : Hid (decide (l = r) = false) := Lib.hid (decide_eq_false (fun e => hnm (by rw [← hl1, ← hl2, e])))
    clear HC HD
    go_enter Try.func14, Try.ntmps14
    have hnn : ((n : Int) != (m : Int)) = true := by simp; omega
    go_wp2_with fail
    go_ret
    exact ⟨by rw [HF.out]; rfl, Below.refl _ _⟩
end Go.Proofs.Ytnioaaahkhephaa.al
