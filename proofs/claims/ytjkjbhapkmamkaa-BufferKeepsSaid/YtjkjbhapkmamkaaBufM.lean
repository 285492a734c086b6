/-
  Layer 21's law BufferKeeps (written by gen_bufm.py).
-/
import Derived.Test.YtjkjbhapkmamkaaBufK
namespace Go.Proofs.Ytjkjbhapkmamkaa.bf
open Go.RowKit aid mem sp
attribute [local go_sem ↓] Go.wp_at_zero Go.wp_at_succ
set_option linter.unusedVariables false
set_option linter.unusedSimpArgs false

/-- a buffer of one's own, and a row of one's own -/
structure KS (w : World) (B : Nat) (g : Rg) (x : Bf) (a : Option Addr) (n cap : Nat) (W : World) : Prop where
  bs : BS w B g x W
  row : ∃ l, RRow W a n cap l
  ow : ∀ c ∈ blk a cap, w.heap.size ≤ c ∧ c ∉ [B, g.b]
theorem KS.later {w W W' : World} {B : Nat} {g : Rg} {x : Bf} {a : Option Addr} {n cap : Nat} (h : KS w B g x a n cap W) (hb : Below W.heap.size W W') : KS w B g x a n cap W' := by
  obtain ⟨l, h2⟩ := h.row
  exact ⟨h.bs.later hb, ⟨l, h2.later hb⟩, h.ow⟩
/-- a byte of the row is written -/
theorem KS.store {w W : World} {B : Nat} {g : Rg} {x : Bf} {a : Option Addr} {n cap : Nat} (h : KS w B g x a n cap W) (i : Nat) (hi : i < n) :
    ∃ G off v, a = some ⟨G, off, none⟩ ∧ n ≤ cap ∧ W.cell? ⟨G, off + i, none⟩ = some (.int .u8 v) ∧ W.frozen? ⟨G, off + i, none⟩ = false ∧ ∀ u, KS w B g x a n cap (W.setCell ⟨G, off + i, none⟩ (.int .u8 u)) := by
  obtain ⟨l, hr⟩ := h.row
  have hle := hr.le
  have hlen := rrow_len hr
  obtain ⟨G, off, cur, rfl, hg, h1, h2⟩ := hr.rest (by omega)
  have hbl : G ∈ blk (some (⟨G, off, none⟩ : Addr)) cap := by rw [blk_some _ _ _ (by omega)]; simp
  have ho := h.ow G hbl
  have hget : (ints .u8 l)[i]? = some (.int .u8 (l.getD i 0)) := by rw [ints]; exact getD_map_some (by omega)
  refine ⟨G, off, l.getD i 0, rfl, hle, ?_, fofr hg _, fun u => ?_⟩
  · rw [cell_of_row W G _ cur _ (0, 0) hg, h2 i (by omega)]
    exact hget
  · have hk : Kept [G] W (W.setCell ⟨G, off + i, none⟩ (.int .u8 u)) := (Kept.refl _ _).setCell (.inl (by simp)) _
    have hh : (W.setCell ⟨G, off + i, none⟩ (.int .u8 u)).heap[G]? = some (.cells (cur.setIfInBounds (off + i) (.int .u8 u)) 5 (0, 0)) := heap_setCell_same W G (off + i) _ _ _ hg
    refine ⟨⟨h.bs.bf.keep hk (fun b hb e => by simp at e; subst e; exact ho.2 hb), h.bs.below.trans (hk.below (by simpa using ho.1) h.bs.below.size), h.bs.own⟩, ⟨l.set i u, ?_⟩, h.ow⟩
    refine ⟨by rw [ints_len, List.length_set]; omega, hle, hr.most, fun _ => ⟨G, off, _, rfl, hh, by simpa using h1, fun j hj => ?_⟩⟩
    rw [Array.getElem?_setIfInBounds]
    have hj' : j < n := by omega
    have hms : ints .u8 (l.set i u) = (ints .u8 l).set i (.int .u8 u) := by simp [ints, List.map_set]
    rw [hms, List.getElem?_set]
    by_cases e : i = j
    · subst e
      rw [if_pos rfl, if_pos (by omega), if_pos rfl, if_pos (by rw [ints_len]; omega)]
    · rw [if_neg (by omega), if_neg e]
      exact h2 j hj
theorem own_ks {w W : World} {B : Nat} {g : Rg} {x : Bf} {a : Option Addr} {n cap : Nat} {l : List Int} (h : BS w B g x W) (hr : RRow W a n cap l) (hn : ∀ c ∈ blk a cap, w.heap.size ≤ c ∧ c ∉ [B, g.b]) : KS w B g x a n cap W := ⟨h, ⟨l, hr⟩, hn⟩
/-- bytes that came in, in a new row -/
theorem sla_rrow_same {w : World} {a b : Option Addr} {n m c1 c2 : Nat} {l : List Int} (h1 : SlA .u8 w a n c1 l) (h2 : SlA .u8 w b m c2 l) : Calls Try.prog 14 #[.slice a n c1, .slice b m c2] w fun e w' => e = .returned (.bool true) ∧ Below w.heap.size w w' := by
  have e1 := h1.len
  have e2 := h2.len
  obtain rfl : n = m := by omega
  exact (oc.same_true a b n c1 c2 l w h1 h2).mono fun e w' ⟨q1, q, q2⟩ => ⟨q1, q2 ▸ ⟨rfl, rfl, rfl, Nat.le_refl _, fun _ _ => rfl⟩⟩
theorem bs_read2 {w W : World} {B : Nat} {g : Rg} {x : Bf} (h : BS w B g x W) (s : Int × Int) : Calls Try.prog 13 #[.pointer (some ⟨B, 0, none⟩), spV s] W fun e w' => ∃ a' n' cap', e = .returned (.tuple #[.slice a' n' cap', .int .i64 (rdE x s)]) ∧ RRow w' a' n' cap' (rdL x s) ∧ BS w B g x w' ∧ Below W.heap.size W w' ∧ ∀ b ∈ blk a' cap', W.heap.size ≤ b :=
  (read_any h.bf s).mono fun e w' ⟨a', n', cap', q1, q2, q3, q4⟩ => ⟨a', n', cap', q1, q2, h.later q3, q3, q4⟩
theorem rrow_blk {W : World} {a : Option Addr} {n cap : Nat} {l : List Int} (h : RRow W a n cap l) {y : Addr} (hy : a = some y) (h0 : 0 < n) : y.block ∈ blk a cap := by
  have := h.le
  obtain ⟨g, off, cur, ha, _⟩ := h.rest (by omega)
  rw [ha] at hy
  injection hy with hy
  subst hy
  rw [ha, blk_some _ _ _ (by omega)]
  simp
/-- the numbers of the law -/
structure Nm (mo cu fr : Int) (m pn F C : Nat) : Prop where
  m1 : 1 ≤ m
  m2 : m ≤ 65536
  pm : pn ≤ m
  f : F ≤ pn
  c0 : F ≤ C
  c1 : C ≤ pn
  w1 : IntKind.i64.wrap (1 + mo) = (m : Int)
  w2 : IntKind.i64.wrap ((pn : Int) + 1) = (pn : Int) + 1
  w3 : fr.tmod ((pn : Int) + 1) = (F : Int)
  w4 : IntKind.i64.wrap ((m : Int) - (pn : Int)) = (m : Int) - (pn : Int)
  w5 : IntKind.i64.wrap ((m : Int) - (pn : Int) + (F : Int)) = (m : Int) - (pn : Int) + (F : Int)
  w6 : IntKind.i64.wrap ((pn : Int) - (F : Int)) = (pn : Int) - (F : Int)
  w7 : IntKind.i64.wrap ((pn : Int) - (F : Int) + 1) = (pn : Int) - (F : Int) + 1
  w8 : cu.tmod ((pn : Int) - (F : Int) + 1) = (C : Int) - (F : Int)
  w9 : IntKind.i64.wrap ((F : Int) + ((C : Int) - (F : Int))) = (C : Int)
  w3' : fr % ((pn : Int) + 1) = (F : Int)
  w8' : cu % ((pn : Int) - (F : Int) + 1) = (C : Int) - (F : Int)
theorem nm_of (mo cu fr : Int) (pn : Nat) (h1 : 0 ≤ mo ∧ mo ≤ 65535) (h2 : 0 ≤ cu ∧ cu ≤ 65535) (h3 : 0 ≤ fr ∧ fr ≤ 65535) (hp : (pn : Int) ≤ 1 + mo) : ∃ m F C, Nm mo cu fr m pn F C ∧ (m : Int) = 1 + mo := by
  have f0 := Int.emod_nonneg fr (b := (pn : Int) + 1) (by omega)
  have f1 := Int.emod_lt_of_pos fr (b := (pn : Int) + 1) (by omega)
  obtain ⟨F, hF⟩ : ∃ F : Nat, fr % ((pn : Int) + 1) = (F : Int) := ⟨(fr % ((pn : Int) + 1)).toNat, by omega⟩
  rw [hF] at f0 f1
  have c0 := Int.emod_nonneg cu (b := (pn : Int) - (F : Int) + 1) (by omega)
  have c1 := Int.emod_lt_of_pos cu (b := (pn : Int) - (F : Int) + 1) (by omega)
  obtain ⟨G, hG⟩ : ∃ G : Nat, cu % ((pn : Int) - (F : Int) + 1) = (G : Int) := ⟨(cu % ((pn : Int) - (F : Int) + 1)).toNat, by omega⟩
  rw [hG] at c0 c1
  refine ⟨(1 + mo).toNat, F, F + G, ⟨by omega, by omega, by omega, by omega, by omega, by omega, ?_, ?_, ?_, ?_, ?_, ?_, ?_, ?_, ?_, hF, ?_⟩, by omega⟩
  · rw [IntWalk.i64_in _ (by omega)]; omega
  · rw [IntWalk.i64_in _ (by omega)]
  · rw [tmod_pos _ _ (by omega), hF]
  · rw [IntWalk.i64_in _ (by omega)]
  · rw [IntWalk.i64_in _ (by omega)]
  · rw [IntWalk.i64_in _ (by omega)]
  · rw [IntWalk.i64_in _ (by omega)]
  · rw [tmod_pos _ _ (by omega), hG]; omega
  · rw [IntWalk.i64_in _ (by omega)]; omega
  · rw [hG]; omega
set_option maxRecDepth 100000 in
set_option maxHeartbeats 8000000 in
theorem keeps_yes (w : World) (mo cu fr : Int) (pa : Option Addr) (pn pc : Nat) (P : List Int) (hp : SlA .u8 w pa pn pc P) (qa : Option Addr) (qn qc : Nat) (Q : List Int) (hq : SlA .u8 w qa qn qc Q) (m F C : Nat) (hN : Nm mo cu fr m pn F C) (hmo : 0 ≤ mo ∧ mo ≤ 65535) (hcu : 0 ≤ cu ∧ cu ≤ 65535) (hfr : 0 ≤ fr ∧ fr ≤ 65535) (hmore : qn + pn ≤ m + F) :
    Calls Try.prog 4 #[.int .u16 mo, .slice pa pn pc, .slice qa qn qc, .int .u16 cu, .int .u16 fr] w fun x w' => x = .returned (.bool true) ∧ Below w.heap.size w w' := by
  have hb := Below.refl w.heap.size w
  have hpl := hp.len
  have hql := hq.len
  have hqm := hq.most
  have hql2 := hq.le
  unfold maxLen at hqm
  obtain ⟨m1, m2, pm, f0, c0, c1, w1, w2, w3, w4, w5, w6, w7, w8, w9, w3', w8'⟩ := hN
  have HP := Lib.hid hp
  have HQ := Lib.hid hq
  have HNM := Lib.hid (show 1 ≤ m ∧ m ≤ 65536 ∧ pn ≤ m ∧ F ≤ pn ∧ F ≤ C ∧ C ≤ pn from ⟨m1, m2, pm, f0, c0, c1⟩)
  obtain ⟨i0, hi, hz0, hz1, hz2⟩ := info_split info_u8
  have HNW := Lib.hid (fun W (hb : Below w.heap.size w W) => show Calls Try.prog 7 #[.int .i64 0, .int .i64 m] W fun e w' => ∃ (B : Nat) (g : Rg), e = .returned (.tuple #[.pointer (some ⟨B, 0, none⟩), .int .i64 0]) ∧ BS w B g ⟨0, m, []⟩ w' ∧ ∀ b ∈ [B, g.b], W.heap.size ≤ b from new_bs hb 0 m (by omega) m1 m2)
  have HW1 := Lib.hid (fun W (B : Nat) (g : Rg) (a : Option Addr) (cap : Nat) (h : BS w B g ⟨0, m, []⟩ W) (hr : SlA .u8 W a pn cap P) (hd : ∀ y, a = some y → 0 < pn → y.block ∉ [B, g.b]) => show Calls Try.prog 11 #[.pointer (some ⟨B, 0, none⟩), .slice a pn cap] W fun e w' => e = .returned (.int .i64 0) ∧ BS w B g ⟨0, m, P⟩ w' ∧ Kept [B, g.b] W w' from by
    have h1 : Calls Try.prog 11 #[.pointer (some ⟨B, 0, none⟩), .slice a pn cap] W fun e w' => e = .returned (.int .i64 (wrE ⟨0, m, []⟩ pn)) ∧ BS w B g (wrX ⟨0, m, []⟩ P) w' ∧ Kept [B, g.b] W w' := (write_any h.bf hr hd).mono fun e w' q => ⟨(h.wrote q).1, (h.wrote q).2, q.2.2⟩
    have he : wrE ⟨0, m, []⟩ pn = 0 := by
      rcases wrE_cases ⟨0, m, []⟩ pn with ⟨_, q⟩ | ⟨_, _, q⟩ | ⟨q, _⟩
      · simp at q; omega
      · simp at q; omega
      · exact q
    have hx : wrX ⟨0, m, []⟩ P = ⟨0, m, P⟩ := by unfold wrX; rw [hpl, if_pos he]; simp
    rw [he, hx] at h1
    exact h1)
  have HFR := Lib.hid (fun W (B : Nat) (g : Rg) (h : BS w B g ⟨0, m, P⟩ W) => show Calls Try.prog 12 #[.pointer (some ⟨B, 0, none⟩), .int .i64 (F : Int)] W fun e w' => e = .returned (.int .i64 0) ∧ BS w B g ⟨F, m, P.drop F⟩ w' from by
    have h1 := bs_free h (F : Int)
    have he : frE ⟨0, m, P⟩ (F : Int) = 0 := by
      rcases frE_cases ⟨0, m, P⟩ (F : Int) with ⟨_, q⟩ | ⟨_, _, q⟩ | ⟨q, _⟩
      · simp at q; omega
      · simp at q; omega
      · exact q
    have hx : frX ⟨0, m, P⟩ (F : Int) = ⟨F, m, P.drop F⟩ := by unfold frX; rw [if_pos he]; simp
    rw [he, hx] at h1
    exact h1)
  have HW2 := Lib.hid (fun W (B : Nat) (g : Rg) (h : BS w B g ⟨F, m, P.drop F⟩ W) => show Calls Try.prog 11 #[.pointer (some ⟨B, 0, none⟩), .slice qa qn qc] W fun e w' => e = .returned (.int .i64 0) ∧ BS w B g ⟨F, m, P.drop F ++ Q⟩ w' from by
    have hdq : ∀ y, qa = some y → 0 < qn → y.block ∉ [B, g.b] := fun y hy h0 he => by
      obtain ⟨b, off, hbo, hc⟩ := hq.cells (by omega)
      rw [hy] at hbo
      injection hbo with hbo
      subst hbo
      have h1 := World.block_lt_of_cell? w _ (hc 0 h0)
      have := h.own _ he
      dsimp only at *
      omega
    have h1 := bs_write h (HQ.out.later h.below) hdq
    have hdl : (P.drop F).length = pn - F := by rw [List.length_drop]; omega
    have he : wrE ⟨F, m, P.drop F⟩ qn = 0 := by
      rcases wrE_cases ⟨F, m, P.drop F⟩ qn with ⟨q1, q⟩ | ⟨q1, q2, q⟩ | ⟨q1, q2, q⟩ <;> simp only [hdl] at * <;> first | exact q1 | (exfalso; omega)
    have hx : wrX ⟨F, m, P.drop F⟩ Q = ⟨F, m, P.drop F ++ Q⟩ := by unfold wrX; rw [hql, he]; rfl
    rw [he, hx] at h1
    exact h1)
  have HRX := Lib.hid (fun W (B : Nat) (g : Rg) (h : BS w B g ⟨F, m, P.drop F ++ Q⟩ W) => show Calls Try.prog 13 #[.pointer (some ⟨B, 0, none⟩), spV ((F : Int), (C : Int))] W fun e w' => ∃ a' n' cap', e = .returned (.tuple #[.slice a' n' cap', .int .i64 0]) ∧ RRow w' a' n' cap' ((P.take C).drop F) ∧ BS w B g ⟨F, m, P.drop F ++ Q⟩ w' ∧ Below W.heap.size W w' ∧ ∀ b ∈ blk a' cap', W.heap.size ≤ b from by
    have h1 := bs_read2 h ((F : Int), (C : Int))
    have hdl : (P.drop F).length = pn - F := by rw [List.length_drop]; omega
    have hB : rdB ⟨F, m, P.drop F ++ Q⟩ ((F : Int), (C : Int)) = true := rdB_iff.2 (by simp [hdl]; omega)
    have he : rdE ⟨F, m, P.drop F ++ Q⟩ ((F : Int), (C : Int)) = 0 := by unfold rdE; rw [if_pos hB]
    have hl : rdL ⟨F, m, P.drop F ++ Q⟩ ((F : Int), (C : Int)) = (P.take C).drop F := by
      unfold rdL
      rw [if_pos hB]
      dsimp only
      rw [show ((C : Int) - (F : Int)).toNat = C - F by omega, show ((F : Int) - (F : Int)).toNat = 0 by omega, List.drop_zero, List.drop_take]
      try rw [List.take_append_of_le_length (by omega)]
    rw [he, hl] at h1
    exact h1)
  have HRY := Lib.hid (fun W (B : Nat) (g : Rg) (h : BS w B g ⟨F, m, P.drop F ++ Q⟩ W) => show Calls Try.prog 13 #[.pointer (some ⟨B, 0, none⟩), spV ((C : Int), (pn : Int))] W fun e w' => ∃ a' n' cap', e = .returned (.tuple #[.slice a' n' cap', .int .i64 0]) ∧ RRow w' a' n' cap' (P.drop C) ∧ BS w B g ⟨F, m, P.drop F ++ Q⟩ w' ∧ Below W.heap.size W w' ∧ ∀ b ∈ blk a' cap', W.heap.size ≤ b from by
    have h1 := bs_read2 h ((C : Int), (pn : Int))
    have hdl : (P.drop F).length = pn - F := by rw [List.length_drop]; omega
    have hB : rdB ⟨F, m, P.drop F ++ Q⟩ ((C : Int), (pn : Int)) = true := rdB_iff.2 (by simp [hdl]; omega)
    have he : rdE ⟨F, m, P.drop F ++ Q⟩ ((C : Int), (pn : Int)) = 0 := by unfold rdE; rw [if_pos hB]
    have hl : rdL ⟨F, m, P.drop F ++ Q⟩ ((C : Int), (pn : Int)) = P.drop C := by
      unfold rdL
      rw [if_pos hB]
      dsimp only
      rw [show ((pn : Int) - (F : Int)).toNat = pn - F by omega, show ((C : Int) - (F : Int)).toNat = C - F by omega]
      try rw [List.take_append_of_le_length (by omega)]
      rw [List.take_of_length_le (by omega), List.drop_drop]
      congr 1
      omega
    rw [he, hl] at h1
    exact h1)
  have HRZ := Lib.hid (fun W (B : Nat) (g : Rg) (h : BS w B g ⟨F, m, P.drop F ++ Q⟩ W) => show Calls Try.prog 13 #[.pointer (some ⟨B, 0, none⟩), spV ((C : Int), ((pn : Int) + (qn : Int)))] W fun e w' => ∃ a' n' cap', e = .returned (.tuple #[.slice a' n' cap', .int .i64 0]) ∧ RRow w' a' n' cap' (P.drop C ++ Q) ∧ BS w B g ⟨F, m, P.drop F ++ Q⟩ w' ∧ Below W.heap.size W w' ∧ ∀ b ∈ blk a' cap', W.heap.size ≤ b from by
    have h1 := bs_read2 h ((C : Int), ((pn : Int) + (qn : Int)))
    have hdl : (P.drop F).length = pn - F := by rw [List.length_drop]; omega
    have hB : rdB ⟨F, m, P.drop F ++ Q⟩ ((C : Int), ((pn : Int) + (qn : Int))) = true := rdB_iff.2 (by simp [hdl, hql]; omega)
    have he : rdE ⟨F, m, P.drop F ++ Q⟩ ((C : Int), ((pn : Int) + (qn : Int))) = 0 := by unfold rdE; rw [if_pos hB]
    have hl : rdL ⟨F, m, P.drop F ++ Q⟩ ((C : Int), ((pn : Int) + (qn : Int))) = P.drop C ++ Q := by
      unfold rdL
      rw [if_pos hB]
      dsimp only
      rw [show ((C : Int) - (F : Int)).toNat = C - F by omega, List.take_of_length_le (by simp [hdl, hql] <;> omega)]
      try rw [List.drop_append_of_le_length (by omega)]
      rw [List.drop_drop, show F + (C - F) = C by omega]
    rw [he, hl] at h1
    exact h1)
  have HEN := Lib.hid (fun W (B : Nat) (g : Rg) (h : BS w B g ⟨F, m, P.drop F ++ Q⟩ W) => show Calls Try.prog 15 #[.pointer (some ⟨B, 0, none⟩)] W fun e w' => e = .returned (.int .i64 (((pn : Int) + (qn : Int)))) ∧ BS w B g ⟨F, m, P.drop F ++ Q⟩ w' from by
    have h1 := (end_q h.bf).below
    have hdl : (P.drop F).length = pn - F := by rw [List.length_drop]; omega
    refine h1.mono fun e w' ⟨q1, q2⟩ => ⟨?_, h.later q2⟩
    rw [q1]
    congr 2
    simp [hdl, hql] <;> omega)
  have hsl1 := run_slice_two Try.prog 23 5 i0 Try.underlying23 hi hz1 pa pn pc F C c0 (by have := hp.le; omega)
  have hsl2 := run_slice_from Try.prog 23 5 i0 Try.underlying23 hi hz1 pa pn pc C c1
  have HB1 := Lib.hid (fun W (h : SlA .u8 W pa pn pc P) => (h.take C c1).fromK F c0)
  have HB2 := Lib.hid (fun W (h : SlA .u8 W pa pn pc P) => h.fromK C c1)
  generalize (if pc = F then pa else pa.map (·.add F)) = b1 at *
  generalize (if pc = C then pa else pa.map (·.add C)) = b2 at *
  have k5 : (qn : Int) ≤ (m : Int) - (pn : Int) + (F : Int) := by omega
  have k6 : ¬ (pn : Int) - (F : Int) + 1 = 0 := by omega
  have k7 : ¬ (pn : Int) + 1 = 0 := by omega
  have k1 : ¬ (m : Int) < (pn : Int) := by omega
  have HK := Lib.hid (known_w)
  clear hp hq hpl hql hqm hql2 m1 m2 pm f0 c0 c1 hmore
  go_enter Try.func4, Try.ntmps4
  go_upto_region 7 with (first
    | (go_at_call 6; (with_reducible refine (known_b hb).mono ?_); clear hb; rintro e w1 ⟨rfl, hb⟩)
    | (go_at_call 7; (with_reducible refine (HNW.out _ hb).mono ?_); rintro e w2 ⟨B, g, rfl, hS, _⟩))
  clear hb HNW
  have HS2 := Lib.hid hS
  have hb3 := bal (w := w2) (.cells #[] 5)
  have HS3 := Lib.hid (hS.later hb3)
  have HO := Lib.hid (own_empty w2 w2.heap.size (Nat.le_refl _))
  have HSRC := Lib.hid ((HP.out.later HS3.out.below).src (P := Try.prog) Try.underlying23)
  clear hS hb3
  go_upto_region 8 with (at_builtin; go_must (refine wpList_append_any _ rfl (.tmp 50) (.tmp 51) 23 23 rfl w2.heap.size 5 i0 (.int .u8 0) 1 Try.underlying23 hi hz0 hz1 hz2 rfl (.slice (some ⟨w2.heap.size, 0, none⟩) 0 0) 0 [] rfl HO.out (.slice pa pn pc) rfl pn (ints .u8 P) HSRC.out (by have := HNM.out; unfold maxLen; omega) (by have := HNM.out; omega) (by simp) ?_); intro a1 cap1 w3 ho3 hg3 hat3)
  simp only [Nat.zero_add, List.nil_append] at ho3 hat3 ⊢
  have KA : Hid (BS w B g ⟨0, m, []⟩ w3 ∧ RRow w3 a1 pn cap1 P ∧ ∀ c ∈ blk a1 cap1, w.heap.size ≤ c ∧ c ∉ [B, g.b]) := Lib.hid (by
    have hb3 : Below w2.heap.size w2 w3 := (bal (w := w2) (.cells #[] 5)).trans (below_grown hg3 (by simp) (fun k hk => by simp [Value.ownBlock] at hk; omega))
    obtain ⟨a3, cap3, hv, hsl, hbk⟩ := slr_of_own ho3
    injection hv with v1 v2 v3
    subst v1 v3
    exact ⟨HS2.out.later hb3, hsl, fun c hc => ⟨Nat.le_trans HS2.out.below.size (hbk c hc), fun he => by have := HS2.out.bf.lt c he; have := hbk c hc; omega⟩⟩)
  clear ho3 hg3 hat3 HS2 HS3 HO HSRC
  have HDD := Lib.hid (show ∀ y, a1 = some y → 0 < pn → y.block ∉ [B, g.b] from fun y hy h0 he => (KA.out.2.2 _ (rrow_blk KA.out.2.1 hy h0)).2 he)
  have HSA := Lib.hid KA.out.2.1.sla
  go_upto_region 10 with (go_at_call 11; (with_reducible refine (HW1.out _ B g a1 cap1 KA.out.1 HSA.out HDD.out).mono ?_); rintro e w4 ⟨rfl, hS4, hk4⟩)
  have KB : KS w B g ⟨0, m, P⟩ a1 pn cap1 w4 := ⟨hS4, ⟨P, KA.out.2.1.keep hk4 (fun c hc => (KA.out.2.2 c hc).2)⟩, KA.out.2.2⟩
  clear hS4 hk4 HDD HSA KA HW1
  go_wp2_with fail
  go_loopw [15] (fun i wr => ∃ (k : Nat), i = .int .i64 k ∧ k ≤ pn ∧ KS w B g ⟨0, m, P⟩ a1 pn cap1 wr) (fun i _ => pn - (intOf i).toNat)
  case atStart => exact ⟨0, rfl, by omega, KB⟩
  case round =>
    clear KB
    obtain ⟨k, rfl, hk, KB⟩ := hrel
    by_cases hlt : k < pn
    · have hk2 : (k : Int) < (pn : Int) := by omega
      have hk0 : (0 : Int) ≤ (k : Int) := by omega
      obtain ⟨G, off, v, rfl, hle, hc, hf, hst⟩ := KB.store k hlt
      have HST := Lib.hid hst
      have hk3 := HNM.out
      clear KB hst
      go_wp2_with fail
      go_roundw
      case rel => exact ⟨k + 1, by go_num, by omega, HST.out _⟩
      case measure => simp [intOf]; omega
    · obtain rfl : pn = k := by omega
      have HB4 := Lib.hid KB.bs
      clear KB hk hlt
      go_upto_region 21 with (first
        | (go_at_call 12; (with_reducible refine (HFR.out _ B g HB4.out).mono ?_); rintro e w5 ⟨rfl, hS⟩; have HB5 := Lib.hid hS; clear hS)
        | (go_at_call 11; (with_reducible refine (HW2.out _ B g HB5.out).mono ?_); rintro e w6 ⟨rfl, hS⟩; have HB6 := Lib.hid hS; clear hS))
      clear HFR HW2 HB4 HB5
      go_upto_region 23 with (go_at_call 13; first
        | ((with_reducible refine (HRX.out _ B g HB6.out).mono ?_); rintro e w7 ⟨ax, nx, cx, rfl, hr7, hS7, hb7, _⟩; have HB7 := Lib.hid hS7; have HX7 := Lib.hid hr7; clear HB6 hr7 hS7 hb7)
        | ((with_reducible refine (HRY.out _ B g HB7.out).mono ?_); rintro e w8 ⟨ay, ny, cy, rfl, hr8, hS8, hb8, hn8⟩; have HB8 := Lib.hid hS8; have HY8 := Lib.hid hr8; have HX8 := Lib.hid (HX7.out.later hb8); have HNY := Lib.hid (show ∀ b ∈ blk ay cy, w.heap.size ≤ b ∧ b ∉ [B, g.b] from fun b hb => ⟨Nat.le_trans HB7.out.below.size (hn8 b hb), fun he => by have := HB7.out.bf.lt b he; have := hn8 b hb; omega⟩); clear HB7 HX7 hr8 hS8 hb8 hn8))
      clear HRX HRY
      have HPX := Lib.hid (HB1.out _ (HP.out.later HB8.out.below))
      go_upto_region 25 with (go_at_call 14; first
        | ((with_reducible refine (sla_rrow_same HX8.out.sla HPX.out).mono ?_); rintro e w9 ⟨rfl, hb9⟩; have HB9 := Lib.hid (HB8.out.later hb9); have HY9 := Lib.hid (HY8.out.later hb9); clear HB8 HY8 HX8 HPX hb9; have HPX := Lib.hid (HB2.out _ (HP.out.later HB9.out.below)))
        | ((with_reducible refine (sla_rrow_same HY9.out.sla HPX.out).mono ?_); rintro e w10 ⟨rfl, hb10⟩; have KB : KS w B g ⟨F, m, P.drop F ++ Q⟩ ay ny cy w10 := ⟨HB9.out.later hb10, ⟨_, HY9.out.later hb10⟩, HNY.out⟩))
      have HNL := Lib.hid (show ny ≤ 65536 from by have q := rrow_len HY9.out; rw [List.length_drop] at q; have := HNM.out; have := HP.out.len; omega)
      clear HB9 HY9 HPX HNY hb10 HB1
      go_wp2_with fail
      go_loopw [23] (fun i wr => ∃ (k : Nat), i = .int .i64 k ∧ k ≤ ny ∧ KS w B g ⟨F, m, P.drop F ++ Q⟩ ay ny cy wr) (fun i _ => ny - (intOf i).toNat)
      case atStart => exact ⟨0, rfl, by omega, KB⟩
      case round =>
        clear KB
        obtain ⟨k, rfl, hk, KB⟩ := hrel
        by_cases hlt : k < ny
        · have hk2 : (k : Int) < (ny : Int) := by omega
          have hk0 : (0 : Int) ≤ (k : Int) := by omega
          obtain ⟨G, off, v, rfl, hle, hc, hf, hst⟩ := KB.store k hlt
          have HST := Lib.hid hst
          have hk3 := HNL.out
          clear KB hst
          go_wp2_with fail
          go_roundw
          case rel => exact ⟨k + 1, by go_num, by omega, HST.out _⟩
          case measure => simp [intOf]; omega
        · obtain rfl : ny = k := by omega
          have HB11 := Lib.hid KB.bs
          clear KB hk hlt HNL
          go_upto_region 30 with (first
            | (go_at_call 15; (with_reducible refine (HEN.out _ B g HB11.out).mono ?_); rintro e w12 ⟨rfl, hS⟩; have HB12 := Lib.hid hS; clear hS HB11)
            | (go_at_call 13; (with_reducible refine (HRZ.out _ B g HB12.out).mono ?_); rintro e w13 ⟨az, nz, cz, rfl, hr13, hS13, _, _⟩; have HB13 := Lib.hid hS13; have HZ13 := Lib.hid hr13; clear HB12 hr13 hS13))
          clear HRZ HEN
          have hb14 := bal (w := w13) (.cells #[] 5)
          have HO := Lib.hid (own_empty w13 w13.heap.size (Nat.le_refl _))
          have HB14 := Lib.hid (HB13.out.later hb14)
          have HSRC := Lib.hid ((HB2.out _ (HP.out.later HB14.out.below)).src (P := Try.prog) Try.underlying23)
          clear hb14
          go_upto_region 31 with (at_builtin; go_must (refine wpList_append_any _ rfl (.tmp 169) (.tmp 172) 23 23 rfl w13.heap.size 5 i0 (.int .u8 0) 1 Try.underlying23 hi hz0 hz1 hz2 rfl (.slice (some ⟨w13.heap.size, 0, none⟩) 0 0) 0 [] rfl HO.out (.slice b2 (pn - C) (pc - C)) rfl (pn - C) (ints .u8 (P.drop C)) HSRC.out (by have := HNM.out; unfold maxLen; omega) (by have := HNM.out; omega) (by simp) ?_); intro aw cw w15 ho15 hg15 hat15)
          simp only [Nat.zero_add, List.nil_append] at ho15 hat15 ⊢
          have KW : Hid (Below w13.heap.size w13 w15 ∧ w15.ownsRow w13.heap.size 5 1 (.slice aw (pn - C) cw) (pn - C) (ints .u8 (P.drop C)) ∧ ∀ k, Value.ownBlock (.slice aw (pn - C) cw) = some k → w13.heap.size ≤ k) := Lib.hid (by
            refine ⟨(bal (w := w13) (.cells #[] 5)).trans (below_grown hg15 (by simp) (fun k hk => by simp [Value.ownBlock] at hk; omega)), ho15, fun k hk => ?_⟩
            rcases hat15 with q | q
            · rw [q] at hk; simp [Value.ownBlock] at hk; omega
            · rw [q] at hk; simp at hk; omega)
          clear ho15 hg15 hat15 HO HSRC HB14
          have HQ15 := Lib.hid ((HQ.out.later (HB13.out.below.trans (KW.out.1.mono HB13.out.below.size))).src (P := Try.prog) Try.underlying23)
          have HQL := Lib.hid (show qn ≤ 65536 from by have := HNM.out; omega)
          have HOW := Lib.hid KW.out.2.1
          have HSZ := Lib.hid (show w13.heap.size ≤ w15.heap.size from KW.out.1.size)
          go_upto_region 33 with (at_builtin; go_must (refine wpList_append_any _ rfl (.tmp 175) (.tmp 176) 23 23 rfl w13.heap.size 5 i0 (.int .u8 0) 1 Try.underlying23 hi hz0 hz1 hz2 rfl (.slice aw (pn - C) cw) (pn - C) (ints .u8 (P.drop C)) rfl HOW.out (.slice qa qn qc) rfl qn (ints .u8 Q) HQ15.out (by have := HNM.out; have := HQL.out; unfold maxLen; omega) (by have := HNM.out; have := HQL.out; omega) HSZ.out ?_); intro av cv w16 ho16 hg16 hat16)
          have KV : Hid (RRow w16 av (pn - C + qn) cv (P.drop C ++ Q) ∧ Below w13.heap.size w13 w16) := Lib.hid (by
            have hb16 := KW.out.1.trans (below_grown hg16 KW.out.1.size KW.out.2.2)
            obtain ⟨a3, cap3, hv, hsl, hbk⟩ := slr_of_own ho16
            injection hv with v1 v2 v3
            subst v1 v3
            rw [← ints_app] at hsl
            exact ⟨hsl, hb16⟩)
          have HZ16 := Lib.hid (show RRow w16 az nz cz (P.drop C ++ Q) from SlR.later HZ13.out KV.out.2)
          have hb16 := HB13.out.below.trans (KV.out.2.mono HB13.out.below.size)
          have HSAME := Lib.hid ((same_b HZ16.out KV.out.1).below)
          clear ho16 hg16 hat16 HQ15 HOW HZ13
          go_wp2_with (first
            | (go_at_call 14; (with_reducible refine HSAME.out.mono ?_); rintro e w17 ⟨rfl, hb17⟩; have hb18 := hb16.trans (hb17.mono hb16.size); clear hb16 hb17)
            | (go_at_call 6; (with_reducible refine (known_b hb18).mono ?_); clear hb18; rintro e w18 ⟨rfl, hb⟩))
          go_ret
          exact ⟨rfl, hb⟩
set_option maxRecDepth 100000 in
set_option maxHeartbeats 8000000 in
theorem keeps_no (w : World) (mo cu fr : Int) (pa : Option Addr) (pn pc : Nat) (P : List Int) (hp : SlA .u8 w pa pn pc P) (qa : Option Addr) (qn qc : Nat) (Q : List Int) (hq : SlA .u8 w qa qn qc Q) (m F C : Nat) (hN : Nm mo cu fr m pn F C) (hmo : 0 ≤ mo ∧ mo ≤ 65535) (hcu : 0 ≤ cu ∧ cu ≤ 65535) (hfr : 0 ≤ fr ∧ fr ≤ 65535) (hmore : m + F < qn + pn) :
    Calls Try.prog 4 #[.int .u16 mo, .slice pa pn pc, .slice qa qn qc, .int .u16 cu, .int .u16 fr] w fun x w' => x = .returned (.bool true) ∧ Below w.heap.size w w' := by
  have hb := Below.refl w.heap.size w
  have hpl := hp.len
  have hql := hq.len
  have hqm := hq.most
  have hql2 := hq.le
  unfold maxLen at hqm
  obtain ⟨m1, m2, pm, f0, c0, c1, w1, w2, w3, w4, w5, w6, w7, w8, w9, w3', w8'⟩ := hN
  have HP := Lib.hid hp
  have HQ := Lib.hid hq
  have HNM := Lib.hid (show 1 ≤ m ∧ m ≤ 65536 ∧ pn ≤ m ∧ F ≤ pn ∧ F ≤ C ∧ C ≤ pn from ⟨m1, m2, pm, f0, c0, c1⟩)
  obtain ⟨i0, hi, hz0, hz1, hz2⟩ := info_split info_u8
  have HNW := Lib.hid (fun W (hb : Below w.heap.size w W) => show Calls Try.prog 7 #[.int .i64 0, .int .i64 m] W fun e w' => ∃ (B : Nat) (g : Rg), e = .returned (.tuple #[.pointer (some ⟨B, 0, none⟩), .int .i64 0]) ∧ BS w B g ⟨0, m, []⟩ w' ∧ ∀ b ∈ [B, g.b], W.heap.size ≤ b from new_bs hb 0 m (by omega) m1 m2)
  have HW1 := Lib.hid (fun W (B : Nat) (g : Rg) (a : Option Addr) (cap : Nat) (h : BS w B g ⟨0, m, []⟩ W) (hr : SlA .u8 W a pn cap P) (hd : ∀ y, a = some y → 0 < pn → y.block ∉ [B, g.b]) => show Calls Try.prog 11 #[.pointer (some ⟨B, 0, none⟩), .slice a pn cap] W fun e w' => e = .returned (.int .i64 0) ∧ BS w B g ⟨0, m, P⟩ w' ∧ Kept [B, g.b] W w' from by
    have h1 : Calls Try.prog 11 #[.pointer (some ⟨B, 0, none⟩), .slice a pn cap] W fun e w' => e = .returned (.int .i64 (wrE ⟨0, m, []⟩ pn)) ∧ BS w B g (wrX ⟨0, m, []⟩ P) w' ∧ Kept [B, g.b] W w' := (write_any h.bf hr hd).mono fun e w' q => ⟨(h.wrote q).1, (h.wrote q).2, q.2.2⟩
    have he : wrE ⟨0, m, []⟩ pn = 0 := by
      rcases wrE_cases ⟨0, m, []⟩ pn with ⟨_, q⟩ | ⟨_, _, q⟩ | ⟨q, _⟩
      · simp at q; omega
      · simp at q; omega
      · exact q
    have hx : wrX ⟨0, m, []⟩ P = ⟨0, m, P⟩ := by unfold wrX; rw [hpl, if_pos he]; simp
    rw [he, hx] at h1
    exact h1)
  have HFR := Lib.hid (fun W (B : Nat) (g : Rg) (h : BS w B g ⟨0, m, P⟩ W) => show Calls Try.prog 12 #[.pointer (some ⟨B, 0, none⟩), .int .i64 (F : Int)] W fun e w' => e = .returned (.int .i64 0) ∧ BS w B g ⟨F, m, P.drop F⟩ w' from by
    have h1 := bs_free h (F : Int)
    have he : frE ⟨0, m, P⟩ (F : Int) = 0 := by
      rcases frE_cases ⟨0, m, P⟩ (F : Int) with ⟨_, q⟩ | ⟨_, _, q⟩ | ⟨q, _⟩
      · simp at q; omega
      · simp at q; omega
      · exact q
    have hx : frX ⟨0, m, P⟩ (F : Int) = ⟨F, m, P.drop F⟩ := by unfold frX; rw [if_pos he]; simp
    rw [he, hx] at h1
    exact h1)
  have HW2 := Lib.hid (fun W (B : Nat) (g : Rg) (h : BS w B g ⟨F, m, P.drop F⟩ W) => show Calls Try.prog 11 #[.pointer (some ⟨B, 0, none⟩), .slice qa qn qc] W fun e w' => e = .returned (.int .i64 4) ∧ BS w B g ⟨F, m, P.drop F⟩ w' from by
    have hdq : ∀ y, qa = some y → 0 < qn → y.block ∉ [B, g.b] := fun y hy h0 he => by
      obtain ⟨b, off, hbo, hc⟩ := hq.cells (by omega)
      rw [hy] at hbo
      injection hbo with hbo
      subst hbo
      have h1 := World.block_lt_of_cell? w _ (hc 0 h0)
      have := h.own _ he
      dsimp only at *
      omega
    have h1 := bs_write h (HQ.out.later h.below) hdq
    have hdl : (P.drop F).length = pn - F := by rw [List.length_drop]; omega
    have he : wrE ⟨F, m, P.drop F⟩ qn = 4 := by
      rcases wrE_cases ⟨F, m, P.drop F⟩ qn with ⟨q1, q⟩ | ⟨q1, q2, q⟩ | ⟨q1, q2, q⟩ <;> simp only [hdl] at * <;> first | exact q1 | (exfalso; omega)
    have hx : wrX ⟨F, m, P.drop F⟩ Q = ⟨F, m, P.drop F⟩ := by unfold wrX; rw [hql, he]; rfl
    rw [he, hx] at h1
    exact h1)
  have HRX := Lib.hid (fun W (B : Nat) (g : Rg) (h : BS w B g ⟨F, m, P.drop F⟩ W) => show Calls Try.prog 13 #[.pointer (some ⟨B, 0, none⟩), spV ((F : Int), (C : Int))] W fun e w' => ∃ a' n' cap', e = .returned (.tuple #[.slice a' n' cap', .int .i64 0]) ∧ RRow w' a' n' cap' ((P.take C).drop F) ∧ BS w B g ⟨F, m, P.drop F⟩ w' ∧ Below W.heap.size W w' ∧ ∀ b ∈ blk a' cap', W.heap.size ≤ b from by
    have h1 := bs_read2 h ((F : Int), (C : Int))
    have hdl : (P.drop F).length = pn - F := by rw [List.length_drop]; omega
    have hB : rdB ⟨F, m, P.drop F⟩ ((F : Int), (C : Int)) = true := rdB_iff.2 (by simp [hdl]; omega)
    have he : rdE ⟨F, m, P.drop F⟩ ((F : Int), (C : Int)) = 0 := by unfold rdE; rw [if_pos hB]
    have hl : rdL ⟨F, m, P.drop F⟩ ((F : Int), (C : Int)) = (P.take C).drop F := by
      unfold rdL
      rw [if_pos hB]
      dsimp only
      rw [show ((C : Int) - (F : Int)).toNat = C - F by omega, show ((F : Int) - (F : Int)).toNat = 0 by omega, List.drop_zero, List.drop_take]
      try rw [List.take_append_of_le_length (by omega)]
    rw [he, hl] at h1
    exact h1)
  have HRY := Lib.hid (fun W (B : Nat) (g : Rg) (h : BS w B g ⟨F, m, P.drop F⟩ W) => show Calls Try.prog 13 #[.pointer (some ⟨B, 0, none⟩), spV ((C : Int), (pn : Int))] W fun e w' => ∃ a' n' cap', e = .returned (.tuple #[.slice a' n' cap', .int .i64 0]) ∧ RRow w' a' n' cap' (P.drop C) ∧ BS w B g ⟨F, m, P.drop F⟩ w' ∧ Below W.heap.size W w' ∧ ∀ b ∈ blk a' cap', W.heap.size ≤ b from by
    have h1 := bs_read2 h ((C : Int), (pn : Int))
    have hdl : (P.drop F).length = pn - F := by rw [List.length_drop]; omega
    have hB : rdB ⟨F, m, P.drop F⟩ ((C : Int), (pn : Int)) = true := rdB_iff.2 (by simp [hdl]; omega)
    have he : rdE ⟨F, m, P.drop F⟩ ((C : Int), (pn : Int)) = 0 := by unfold rdE; rw [if_pos hB]
    have hl : rdL ⟨F, m, P.drop F⟩ ((C : Int), (pn : Int)) = P.drop C := by
      unfold rdL
      rw [if_pos hB]
      dsimp only
      rw [show ((pn : Int) - (F : Int)).toNat = pn - F by omega, show ((C : Int) - (F : Int)).toNat = C - F by omega]
      try rw [List.take_append_of_le_length (by omega)]
      rw [List.take_of_length_le (by omega), List.drop_drop]
      congr 1
      omega
    rw [he, hl] at h1
    exact h1)
  have HRZ := Lib.hid (fun W (B : Nat) (g : Rg) (h : BS w B g ⟨F, m, P.drop F⟩ W) => show Calls Try.prog 13 #[.pointer (some ⟨B, 0, none⟩), spV ((C : Int), (pn : Int))] W fun e w' => ∃ a' n' cap', e = .returned (.tuple #[.slice a' n' cap', .int .i64 0]) ∧ RRow w' a' n' cap' (P.drop C) ∧ BS w B g ⟨F, m, P.drop F⟩ w' ∧ Below W.heap.size W w' ∧ ∀ b ∈ blk a' cap', W.heap.size ≤ b from by
    have h1 := bs_read2 h ((C : Int), (pn : Int))
    have hdl : (P.drop F).length = pn - F := by rw [List.length_drop]; omega
    have hB : rdB ⟨F, m, P.drop F⟩ ((C : Int), (pn : Int)) = true := rdB_iff.2 (by simp [hdl, hql]; omega)
    have he : rdE ⟨F, m, P.drop F⟩ ((C : Int), (pn : Int)) = 0 := by unfold rdE; rw [if_pos hB]
    have hl : rdL ⟨F, m, P.drop F⟩ ((C : Int), (pn : Int)) = P.drop C := by
      unfold rdL
      rw [if_pos hB]
      dsimp only
      rw [show ((C : Int) - (F : Int)).toNat = C - F by omega, List.take_of_length_le (by simp [hdl, hql] <;> omega)]
      try rw [List.drop_append_of_le_length (by omega)]
      rw [List.drop_drop, show F + (C - F) = C by omega]
    rw [he, hl] at h1
    exact h1)
  have HEN := Lib.hid (fun W (B : Nat) (g : Rg) (h : BS w B g ⟨F, m, P.drop F⟩ W) => show Calls Try.prog 15 #[.pointer (some ⟨B, 0, none⟩)] W fun e w' => e = .returned (.int .i64 ((pn : Int))) ∧ BS w B g ⟨F, m, P.drop F⟩ w' from by
    have h1 := (end_q h.bf).below
    have hdl : (P.drop F).length = pn - F := by rw [List.length_drop]; omega
    refine h1.mono fun e w' ⟨q1, q2⟩ => ⟨?_, h.later q2⟩
    rw [q1]
    congr 2
    simp [hdl, hql] <;> omega)
  have hsl1 := run_slice_two Try.prog 23 5 i0 Try.underlying23 hi hz1 pa pn pc F C c0 (by have := hp.le; omega)
  have hsl2 := run_slice_from Try.prog 23 5 i0 Try.underlying23 hi hz1 pa pn pc C c1
  have HB1 := Lib.hid (fun W (h : SlA .u8 W pa pn pc P) => (h.take C c1).fromK F c0)
  have HB2 := Lib.hid (fun W (h : SlA .u8 W pa pn pc P) => h.fromK C c1)
  generalize (if pc = F then pa else pa.map (·.add F)) = b1 at *
  generalize (if pc = C then pa else pa.map (·.add C)) = b2 at *
  have k5 : ¬ (qn : Int) ≤ (m : Int) - (pn : Int) + (F : Int) := by omega
  have k6 : ¬ (pn : Int) - (F : Int) + 1 = 0 := by omega
  have k7 : ¬ (pn : Int) + 1 = 0 := by omega
  have k1 : ¬ (m : Int) < (pn : Int) := by omega
  have HK := Lib.hid (known_w)
  clear hp hq hpl hql hqm hql2 m1 m2 pm f0 c0 c1 hmore
  go_enter Try.func4, Try.ntmps4
  go_upto_region 7 with (first
    | (go_at_call 6; (with_reducible refine (known_b hb).mono ?_); clear hb; rintro e w1 ⟨rfl, hb⟩)
    | (go_at_call 7; (with_reducible refine (HNW.out _ hb).mono ?_); rintro e w2 ⟨B, g, rfl, hS, _⟩))
  clear hb HNW
  have HS2 := Lib.hid hS
  have hb3 := bal (w := w2) (.cells #[] 5)
  have HS3 := Lib.hid (hS.later hb3)
  have HO := Lib.hid (own_empty w2 w2.heap.size (Nat.le_refl _))
  have HSRC := Lib.hid ((HP.out.later HS3.out.below).src (P := Try.prog) Try.underlying23)
  clear hS hb3
  go_upto_region 8 with (at_builtin; go_must (refine wpList_append_any _ rfl (.tmp 50) (.tmp 51) 23 23 rfl w2.heap.size 5 i0 (.int .u8 0) 1 Try.underlying23 hi hz0 hz1 hz2 rfl (.slice (some ⟨w2.heap.size, 0, none⟩) 0 0) 0 [] rfl HO.out (.slice pa pn pc) rfl pn (ints .u8 P) HSRC.out (by have := HNM.out; unfold maxLen; omega) (by have := HNM.out; omega) (by simp) ?_); intro a1 cap1 w3 ho3 hg3 hat3)
  simp only [Nat.zero_add, List.nil_append] at ho3 hat3 ⊢
  have KA : Hid (BS w B g ⟨0, m, []⟩ w3 ∧ RRow w3 a1 pn cap1 P ∧ ∀ c ∈ blk a1 cap1, w.heap.size ≤ c ∧ c ∉ [B, g.b]) := Lib.hid (by
    have hb3 : Below w2.heap.size w2 w3 := (bal (w := w2) (.cells #[] 5)).trans (below_grown hg3 (by simp) (fun k hk => by simp [Value.ownBlock] at hk; omega))
    obtain ⟨a3, cap3, hv, hsl, hbk⟩ := slr_of_own ho3
    injection hv with v1 v2 v3
    subst v1 v3
    exact ⟨HS2.out.later hb3, hsl, fun c hc => ⟨Nat.le_trans HS2.out.below.size (hbk c hc), fun he => by have := HS2.out.bf.lt c he; have := hbk c hc; omega⟩⟩)
  clear ho3 hg3 hat3 HS2 HS3 HO HSRC
  have HDD := Lib.hid (show ∀ y, a1 = some y → 0 < pn → y.block ∉ [B, g.b] from fun y hy h0 he => (KA.out.2.2 _ (rrow_blk KA.out.2.1 hy h0)).2 he)
  have HSA := Lib.hid KA.out.2.1.sla
  go_upto_region 10 with (go_at_call 11; (with_reducible refine (HW1.out _ B g a1 cap1 KA.out.1 HSA.out HDD.out).mono ?_); rintro e w4 ⟨rfl, hS4, hk4⟩)
  have KB : KS w B g ⟨0, m, P⟩ a1 pn cap1 w4 := ⟨hS4, ⟨P, KA.out.2.1.keep hk4 (fun c hc => (KA.out.2.2 c hc).2)⟩, KA.out.2.2⟩
  clear hS4 hk4 HDD HSA KA HW1
  go_wp2_with fail
  go_loopw [15] (fun i wr => ∃ (k : Nat), i = .int .i64 k ∧ k ≤ pn ∧ KS w B g ⟨0, m, P⟩ a1 pn cap1 wr) (fun i _ => pn - (intOf i).toNat)
  case atStart => exact ⟨0, rfl, by omega, KB⟩
  case round =>
    clear KB
    obtain ⟨k, rfl, hk, KB⟩ := hrel
    by_cases hlt : k < pn
    · have hk2 : (k : Int) < (pn : Int) := by omega
      have hk0 : (0 : Int) ≤ (k : Int) := by omega
      obtain ⟨G, off, v, rfl, hle, hc, hf, hst⟩ := KB.store k hlt
      have HST := Lib.hid hst
      have hk3 := HNM.out
      clear KB hst
      go_wp2_with fail
      go_roundw
      case rel => exact ⟨k + 1, by go_num, by omega, HST.out _⟩
      case measure => simp [intOf]; omega
    · obtain rfl : pn = k := by omega
      have HB4 := Lib.hid KB.bs
      clear KB hk hlt
      go_upto_region 21 with (first
        | (go_at_call 12; (with_reducible refine (HFR.out _ B g HB4.out).mono ?_); rintro e w5 ⟨rfl, hS⟩; have HB5 := Lib.hid hS; clear hS)
        | (go_at_call 11; (with_reducible refine (HW2.out _ B g HB5.out).mono ?_); rintro e w6 ⟨rfl, hS⟩; have HB6 := Lib.hid hS; clear hS))
      clear HFR HW2 HB4 HB5
      go_upto_region 23 with (go_at_call 13; first
        | ((with_reducible refine (HRX.out _ B g HB6.out).mono ?_); rintro e w7 ⟨ax, nx, cx, rfl, hr7, hS7, hb7, _⟩; have HB7 := Lib.hid hS7; have HX7 := Lib.hid hr7; clear HB6 hr7 hS7 hb7)
        | ((with_reducible refine (HRY.out _ B g HB7.out).mono ?_); rintro e w8 ⟨ay, ny, cy, rfl, hr8, hS8, hb8, hn8⟩; have HB8 := Lib.hid hS8; have HY8 := Lib.hid hr8; have HX8 := Lib.hid (HX7.out.later hb8); have HNY := Lib.hid (show ∀ b ∈ blk ay cy, w.heap.size ≤ b ∧ b ∉ [B, g.b] from fun b hb => ⟨Nat.le_trans HB7.out.below.size (hn8 b hb), fun he => by have := HB7.out.bf.lt b he; have := hn8 b hb; omega⟩); clear HB7 HX7 hr8 hS8 hb8 hn8))
      clear HRX HRY
      have HPX := Lib.hid (HB1.out _ (HP.out.later HB8.out.below))
      go_upto_region 25 with (go_at_call 14; first
        | ((with_reducible refine (sla_rrow_same HX8.out.sla HPX.out).mono ?_); rintro e w9 ⟨rfl, hb9⟩; have HB9 := Lib.hid (HB8.out.later hb9); have HY9 := Lib.hid (HY8.out.later hb9); clear HB8 HY8 HX8 HPX hb9; have HPX := Lib.hid (HB2.out _ (HP.out.later HB9.out.below)))
        | ((with_reducible refine (sla_rrow_same HY9.out.sla HPX.out).mono ?_); rintro e w10 ⟨rfl, hb10⟩; have KB : KS w B g ⟨F, m, P.drop F⟩ ay ny cy w10 := ⟨HB9.out.later hb10, ⟨_, HY9.out.later hb10⟩, HNY.out⟩))
      have HNL := Lib.hid (show ny ≤ 65536 from by have q := rrow_len HY9.out; rw [List.length_drop] at q; have := HNM.out; have := HP.out.len; omega)
      clear HB9 HY9 HPX HNY hb10 HB1
      go_wp2_with fail
      go_loopw [23] (fun i wr => ∃ (k : Nat), i = .int .i64 k ∧ k ≤ ny ∧ KS w B g ⟨F, m, P.drop F⟩ ay ny cy wr) (fun i _ => ny - (intOf i).toNat)
      case atStart => exact ⟨0, rfl, by omega, KB⟩
      case round =>
        clear KB
        obtain ⟨k, rfl, hk, KB⟩ := hrel
        by_cases hlt : k < ny
        · have hk2 : (k : Int) < (ny : Int) := by omega
          have hk0 : (0 : Int) ≤ (k : Int) := by omega
          obtain ⟨G, off, v, rfl, hle, hc, hf, hst⟩ := KB.store k hlt
          have HST := Lib.hid hst
          have hk3 := HNL.out
          clear KB hst
          go_wp2_with fail
          go_roundw
          case rel => exact ⟨k + 1, by go_num, by omega, HST.out _⟩
          case measure => simp [intOf]; omega
        · obtain rfl : ny = k := by omega
          have HB11 := Lib.hid KB.bs
          clear KB hk hlt HNL
          go_upto_region 30 with (first
            | (go_at_call 15; (with_reducible refine (HEN.out _ B g HB11.out).mono ?_); rintro e w12 ⟨rfl, hS⟩; have HB12 := Lib.hid hS; clear hS HB11)
            | (go_at_call 13; (with_reducible refine (HRZ.out _ B g HB12.out).mono ?_); rintro e w13 ⟨az, nz, cz, rfl, hr13, hS13, _, _⟩; have HB13 := Lib.hid hS13; have HZ13 := Lib.hid hr13; clear HB12 hr13 hS13))
          clear HRZ HEN
          have hb14 := bal (w := w13) (.cells #[] 5)
          have HO := Lib.hid (own_empty w13 w13.heap.size (Nat.le_refl _))
          have HB14 := Lib.hid (HB13.out.later hb14)
          have HSRC := Lib.hid ((HB2.out _ (HP.out.later HB14.out.below)).src (P := Try.prog) Try.underlying23)
          clear hb14
          go_upto_region 31 with (at_builtin; go_must (refine wpList_append_any _ rfl (.tmp 169) (.tmp 172) 23 23 rfl w13.heap.size 5 i0 (.int .u8 0) 1 Try.underlying23 hi hz0 hz1 hz2 rfl (.slice (some ⟨w13.heap.size, 0, none⟩) 0 0) 0 [] rfl HO.out (.slice b2 (pn - C) (pc - C)) rfl (pn - C) (ints .u8 (P.drop C)) HSRC.out (by have := HNM.out; unfold maxLen; omega) (by have := HNM.out; omega) (by simp) ?_); intro aw cw w15 ho15 hg15 hat15)
          simp only [Nat.zero_add, List.nil_append] at ho15 hat15 ⊢
          have KW : Hid (Below w13.heap.size w13 w15 ∧ w15.ownsRow w13.heap.size 5 1 (.slice aw (pn - C) cw) (pn - C) (ints .u8 (P.drop C)) ∧ ∀ k, Value.ownBlock (.slice aw (pn - C) cw) = some k → w13.heap.size ≤ k) := Lib.hid (by
            refine ⟨(bal (w := w13) (.cells #[] 5)).trans (below_grown hg15 (by simp) (fun k hk => by simp [Value.ownBlock] at hk; omega)), ho15, fun k hk => ?_⟩
            rcases hat15 with q | q
            · rw [q] at hk; simp [Value.ownBlock] at hk; omega
            · rw [q] at hk; simp at hk; omega)
          clear ho15 hg15 hat15 HO HSRC HB14
          have KV : Hid (RRow w15 aw (pn - C) cw (P.drop C)) := Lib.hid (by
            obtain ⟨a3, cap3, hv, hsl, hbk⟩ := slr_of_own KW.out.2.1
            injection hv with v1 v2 v3
            subst v1 v3
            exact hsl)
          have HZ16 := Lib.hid (show RRow w15 az nz cz (P.drop C) from SlR.later HZ13.out KW.out.1)
          have hb16 := HB13.out.below.trans (KW.out.1.mono HB13.out.below.size)
          have HSAME := Lib.hid ((same_b HZ16.out KV.out).below)
          clear HZ13
          go_wp2_with (first
            | (go_at_call 14; (with_reducible refine HSAME.out.mono ?_); rintro e w17 ⟨rfl, hb17⟩; have hb18 := hb16.trans (hb17.mono hb16.size); clear hb16 hb17)
            | (go_at_call 6; (with_reducible refine (known_b hb18).mono ?_); clear hb18; rintro e w18 ⟨rfl, hb⟩))
          go_ret
          exact ⟨rfl, hb⟩
set_option maxRecDepth 100000 in
set_option maxHeartbeats 4000000 in
theorem walk_BufferKeeps (w : World) (mo : Int) (hmo : 0 ≤ mo ∧ mo ≤ 65535) (pa : Option Addr) (pn pc : Nat) (zp : List Int) (hp : IsRow .u8 w pa pn pc zp) (qa : Option Addr) (qn qc : Nat) (zq : List Int) (hq : IsRow .u8 w qa qn qc zq) (cu : Int) (hcu : 0 ≤ cu ∧ cu ≤ 65535) (fr : Int) (hfr : 0 ≤ fr ∧ fr ≤ 65535) :
    Calls Try.prog 4 #[.int .u16 mo, .slice pa pn pc, .slice qa qn qc, .int .u16 cu, .int .u16 fr] w fun x w' => x = .returned (.bool true) ∧ Below w.heap.size w w' := by
  have hP := sl_of_row hp
  have hQ := sl_of_row hq
  by_cases h : (pn : Int) ≤ 1 + mo
  · obtain ⟨m, F, C, hN, _⟩ := nm_of mo cu fr pn hmo hcu hfr h
    by_cases hm : qn + pn ≤ m + F
    · exact keeps_yes w mo cu fr pa pn pc _ hP qa qn qc _ hQ m F C hN hmo hcu hfr hm
    · exact keeps_no w mo cu fr pa pn pc _ hP qa qn qc _ hQ m F C hN hmo hcu hfr (by omega)
  · obtain ⟨m, hm⟩ : ∃ m : Nat, (m : Int) = 1 + mo := ⟨(1 + mo).toNat, by omega⟩
    have hw : IntKind.i64.wrap (1 + mo) = (m : Int) := by rw [IntWalk.i64_in _ (by omega)]; omega
    have hk : (m : Int) < (pn : Int) := by omega
    have HNW := Lib.hid (fun W (hb : Below w.heap.size w W) => show Calls Try.prog 7 #[.int .i64 0, .int .i64 m] W fun e w' => ∃ (B : Nat) (g : Rg), e = .returned (.tuple #[.pointer (some ⟨B, 0, none⟩), .int .i64 0]) ∧ BS w B g ⟨0, m, []⟩ w' ∧ ∀ b ∈ [B, g.b], W.heap.size ≤ b from new_bs hb 0 m (by omega) (by omega) (by omega))
    have hb := Below.refl w.heap.size w
    clear hp hq hP hQ h hm
    go_enter Try.func4, Try.ntmps4
    go_wp2_with (first
      | (go_at_call 6; (with_reducible refine (known_b hb).mono ?_); clear hb; rintro e w1 ⟨rfl, hb⟩)
      | (go_at_call 7; (with_reducible refine (HNW.out _ hb).mono ?_); clear hb; rintro e w2 ⟨B, g, rfl, hS, _⟩; have hb := hS.below))
    go_ret
    exact ⟨rfl, hb⟩
end Go.Proofs.Ytjkjbhapkmamkaa.bf
