/-
  Package dup: Blocks.
-/
import Derived.Test.YtegfmjkngbnnfaaDupV
import Derived.Test.YtegfmjkngbnnfaaDupR
import Derived.Test.YtegfmjkngbnnfaaSpnS
import Derived.StillTailTactics
namespace Go.Proofs.Ytegfmjkngbnnfaa.dp
open Go.RowKit aid mem sq sp
attribute [local go_sem ↓] Go.wp_at_zero Go.wp_at_succ
set_option linter.unusedVariables false

def bkCells (l : List Bk) : List Value := l.flatMap (fun x => [.int .u32 x.1, .int .u32 x.2])
theorem bkCells_snoc (l : List Bk) (x : Bk) : bkCells (l ++ [x]) = bkCells l ++ [.int .u32 x.1, .int .u32 x.2] := by simp [bkCells]
theorem bkCells_len (l : List Bk) : (bkCells l).length = l.length * 2 := by
  induction l with
  | nil => rfl
  | cons x l ih => rw [show bkCells (x :: l) = [.int .u32 x.1, .int .u32 x.2] ++ bkCells l from rfl, List.length_append, ih]; simp; omega
theorem bkCells_get (l : List Bk) : ∀ i, i < l.length → (bkCells l)[i * 2]? = some (.int .u32 (l.getD i (0, 0)).1) ∧ (bkCells l)[i * 2 + 1]? = some (.int .u32 (l.getD i (0, 0)).2) := by
  induction l with
  | nil => intro i hi; simp at hi
  | cons x l ih =>
    intro i hi
    rw [show bkCells (x :: l) = .int .u32 x.1 :: .int .u32 x.2 :: bkCells l from rfl]
    cases i with
    | zero => exact ⟨rfl, rfl⟩
    | succ i =>
      have := ih i (by simpa using hi)
      rw [show (i + 1) * 2 = i * 2 + 1 + 1 from by omega]
      simpa [List.getD] using this
theorem info_block : (Try.prog.info? 42).map (fun i => (i.zero, i.size, i.bytes)) = some (some (.agg #[.int .u32 0, .int .u32 0]), 2, 8) := by kernel_rfl
theorem block_src {Y : World} {B : Nat} {s : Bk} (h : BkAt Y B s) : Src Try.prog 2 23 (.slice (some ⟨B, 0, none⟩) 1 1) 1 [.int .u32 s.1, .int .u32 s.2] Y := by
  refine Src.ofSlice _ Try.underlying23 ⟨B, 0, none⟩ 1 1 _ rfl ?_ (by simp [Value.oneCell'])
  intro j u hu
  have := cell_of_row Y B j _ _ (0, 0) h
  have hadd : (⟨B, 0, none⟩ : Addr).add j = ⟨B, 0 + j, none⟩ := by unfold Addr.add; split <;> simp_all
  rw [hadd, Nat.zero_add, this, ← hu]
  simp
/-- a row of one's own is a slice of blocks -/
theorem slb_of_own {w : World} {base : Nat} {v : Value} {n : Nat} {l : List Bk} (h : w.ownsRow base 42 2 v n (bkCells l)) (hok : ∀ b ∈ l, BkOk b) :
    ∃ a cap, v = .slice a n cap ∧ SlB w a n cap l := by
  have hl : l.length = n := by have := h.1; rw [bkCells_len] at this; omega
  rcases h.2 with ⟨rfl, rfl⟩ | ⟨g, cap, cur, rfl, hb, hg, hn, hm, hc, ht⟩
  · exact ⟨none, 0, rfl, ⟨hl, Nat.le_refl _, by unfold maxLen; omega, fun _ => rfl, (fun h => by omega), hok⟩⟩
  · refine ⟨some ⟨g, 0, none⟩, cap, rfl, ⟨hl, hn, hm, (fun h => by cases h), fun _ => ⟨g, 0, rfl, fun i hi => ?_⟩, hok⟩⟩
    obtain ⟨e0, e1⟩ := bkCells_get l i (by omega)
    rw [← ht, List.getElem?_take, if_pos (by omega)] at e0 e1
    rw [cell_of_row w g _ cur _ (0, 0) hg, cell_of_row w g _ cur _ (0, 0) hg, Nat.zero_add]
    exact ⟨by simpa using e0, by simpa using e1⟩
/-- a list of blocks is handed back, in memory of its own -/
def RetK (L : List Bk) (w : World) (e : Ending) (w' : World) : Prop := ∃ v, e = .returned v ∧ w'.ownsRow w.heap.size 42 2 v L.length (bkCells L) ∧ Below w.heap.size w w'

/-- the memory of Blocks -/
structure KS (w : World) (base Bl Bf : Nat) (first : Int) (L : List Bk) (v : Value) (W : World) : Prop where
  bl : W.heap[Bl]? = some (.cells #[v] 23 (0, 0))
  bf : W.heap[Bf]? = some (.cells #[.int .u32 first] 22 (0, 0))
  own : W.ownsRow base 42 2 v L.length (bkCells L)
  below : Below w.heap.size w W
  hb : base ≤ W.heap.size
  lts : Bl < base ∧ Bf < base ∧ Bl ≠ Bf ∧ w.heap.size ≤ Bl ∧ w.heap.size ≤ base
  few : L.length ≤ 4
section
variable {w : World} {base Bl Bf : Nat} {first : Int} {L : List Bk} {v : Value} {W W' : World}
theorem KS.later (h : KS w base Bl Bf first L v W) (hb : Below W.heap.size W W') : KS w base Bl Bf first L v W' :=
  ⟨(hb.block _ (lt_of_block h.bl)).trans h.bl, (hb.block _ (lt_of_block h.bf)).trans h.bf, own_later h.own hb, h.below.trans (hb.mono h.below.size), Nat.le_trans h.hb hb.size, h.lts, h.few⟩
theorem KS.cl (h : KS w base Bl Bf first L v W) : W.cell? ⟨Bl, 0, none⟩ = some v := (cell_of_row W Bl 0 _ _ (0, 0) h.bl).trans rfl
theorem KS.cf (h : KS w base Bl Bf first L v W) : W.cell? ⟨Bf, 0, none⟩ = some (.int .u32 first) := (cell_of_row W Bf 0 _ _ (0, 0) h.bf).trans rfl
theorem KS.app (h : KS w base Bl Bf first L v W) {s : Bk} {w1 : World} {v' : Value} (h4 : L.length < 4)
    (ho : w1.ownsRow base 42 2 v' (L.length + 1) (bkCells L ++ [.int .u32 s.1, .int .u32 s.2])) (hg : W.grownBy w1 v.ownBlock) (hw : v'.ownBlock = v.ownBlock ∨ v'.ownBlock = some W.heap.size) :
    KS w base Bl Bf first (L ++ [s]) v' (w1.setCell ⟨Bl, 0, none⟩ v') ∧ w1.heap[Bl]? = some (.cells #[v] 23 (0, 0)) := by
  have nv : ∀ k, k < base → v.ownBlock ≠ some k := fun k hk e => by have := (own_in h.own e).2; omega
  have nv' : ∀ k, v'.ownBlock = some k → base ≤ k := fun k hk => (own_in ho hk).2
  obtain ⟨l1, l2, n1, g1, g2⟩ := h.lts
  have hh := h.hb
  have kb : ∀ {k : Nat} {o : Obj}, k < base → W.heap[k]? = some o → w1.heap[k]? = some o := fun {k o} hk ho => (hg.block k (by omega) (fun e => nv k hk e.symm)).trans ho
  have hk : Kept [Bl] w1 (w1.setCell ⟨Bl, 0, none⟩ v') := (Kept.refl [Bl] w1).setCell (.inl (by simp)) v'
  have hB1 : Below base W w1 := below_grown hg hh (fun k hk => (own_in h.own hk).2)
  refine ⟨⟨(heap_setCell_same _ Bl 0 _ _ _ (kb l1 h.bl)).trans rfl, hk.heap (by simpa using Ne.symm n1) (kb l2 h.bf), ?_, (h.below.trans (hB1.mono g2)).trans (hk.below (by simpa using g1) (Nat.le_trans h.below.size hg.size)), by simpa using Nat.le_trans hh hg.size, h.lts, by simp; omega⟩, kb l1 h.bl⟩
  rw [List.length_append, List.length_singleton, bkCells_snoc]
  exact own_step ho (fun k o hk' ho' => hk.heap (by have := nv' k hk'; simp; omega) ho')
end
theorem app_cells {w W w2 w1 : World} {base Bl Bf : Nat} {first : Int} {L : List Bk} {v : Value} {s : Int × Int} {o : Obj} (h : KS w base Bl Bf first L v (w2.alloc o).drew) (hg : (w2.alloc o).drew.grownBy w1 v.ownBlock)
    (hv : ∀ k, v.ownBlock = some k → k < W.heap.size) (hb : base ≤ W.heap.size) (hs : SpAt w2 W.heap.size s) (hT : w1.heap[Bl]? = some (.cells #[v] 23 (0, 0))) (v' : Value) :
    w1.cell? ⟨Bl, 0, none⟩ = some v ∧ w1.frozen? ⟨Bl, 0, none⟩ = false ∧
    (w1.cell? ⟨Bf, 0, none⟩ = some (.int .u32 first) ∧ w1.cell? ⟨W.heap.size, 0, none⟩ = some (.int .i64 s.1) ∧ w1.cell? ⟨W.heap.size, 1, none⟩ = some (.int .i64 s.2)) ∧
    ((w1.setCell ⟨Bl, 0, none⟩ v').cell? ⟨Bf, 0, none⟩ = some (.int .u32 first) ∧ (w1.setCell ⟨Bl, 0, none⟩ v').cell? ⟨W.heap.size, 0, none⟩ = some (.int .i64 s.1) ∧ (w1.setCell ⟨Bl, 0, none⟩ v').cell? ⟨W.heap.size, 1, none⟩ = some (.int .i64 s.2)) := by
  obtain ⟨l1, l2, n1, g1, g2⟩ := h.lts
  have sA : SpAt (w2.alloc o).drew W.heap.size s := SpAt.later (w := w2.alloc o) (hs.later (bal _)) (Below.refl _ _).drew
  have hX : SpAt w1 W.heap.size s := (hg.block _ sA.lt (fun e => by have := hv _ e.symm; omega)).trans sA
  have hF : w1.heap[Bf]? = some (.cells #[.int .u32 first] 22 (0, 0)) := (hg.block _ (by have := h.hb; omega) (fun e => by have := (own_in h.own e.symm).2; omega)).trans h.bf
  have hk : Kept [Bl] w1 (w1.setCell ⟨Bl, 0, none⟩ v') := (Kept.refl [Bl] w1).setCell (.inl (by simp)) v'
  have hX2 : SpAt (w1.setCell ⟨Bl, 0, none⟩ v') W.heap.size s := hX.keep hk (by simp; omega)
  have hF2 := hk.heap (by simpa using Ne.symm n1) hF
  exact ⟨(cell_of_row w1 Bl 0 _ _ (0, 0) hT).trans rfl, by simp [World.frozen?, hT], ⟨(cell_of_row w1 Bf 0 _ _ (0, 0) hF).trans rfl, hX.c0, hX.c1⟩, (cell_of_row _ Bf 0 _ _ (0, 0) hF2).trans rfl, hX2.c0, hX2.c1⟩
/-- what one span's turn leaves -/
def PutP (w : World) (base Bl Bf : Nat) (first : Int) (L : List Bk) (e : Ending) (W' : World) : Prop := (∃ u, e = .returned u) ∧ ∃ v, KS w base Bl Bf first L v W'

set_option maxRecDepth 100000 in
set_option maxHeartbeats 3200000 in
theorem put_any {w W : World} {base Bl Bf : Nat} {first : Int} {L : List Bk} {v : Value} (h : KS w base Bl Bf first L v W) (hf : 0 ≤ first ∧ first ≤ 4294967295) (s : Int × Int) (hs : (-9223372036854775808 ≤ s.1 ∧ s.1 ≤ 9223372036854775807) ∧ (-9223372036854775808 ≤ s.2 ∧ s.2 ≤ 9223372036854775807)) :
    Calls Try.prog 24 #[spV s, .pointer (some ⟨Bl, 0, none⟩), .pointer (some ⟨Bf, 0, none⟩)] W (PutP w base Bl Bf first (putB first L s)) := by
  have h1 := h.later (bal (.cells #[.int .i64 s.1, .int .i64 s.2] 26))
  have s1 := sp_new W s
  have HL := Lib.hid (len_any s)
  have HP : Hid (putB first L s = if 0 < lenI s ∧ L.length < 4 then L ++ [mkB first s] else L) := Lib.hid rfl
  obtain ⟨va, vc, rfl⟩ := own_form h.own
  generalize putB first L s = LL at *
  generalize lenI s = z at *
  have HS := Lib.hid s1
  have hX := s1.lt
  have c0 := s1.c0; have c1 := s1.c1
  have hvb := fun k (hk : Value.ownBlock (.slice va L.length vc) = some k) => (own_in h.own hk).1
  have hlt := h.lts
  have hWb := h.hb
  clear h s1
  go_enter Try.func24, Try.ntmps24
  go_wp2_with fail
  refine (HL.out _).mono ?_
  rintro e w2 ⟨rfl, h2⟩
  have k2 := h1.later h2
  have s2 := HS.out.later h2
  have few := k2.few
  have cl := k2.cl; have cf := k2.cf
  clear h1 h2 HS c0 c1 HL
  have c0 := s2.c0; have c1 := s2.c1
  by_cases hz : 0 < z
  · by_cases h4 : L.length < 4
    · have H : Hid (LL = L ++ [mkB first s]) := Lib.hid (by rw [HP.out, if_pos ⟨hz, h4⟩])
      have kd := k2.later (Below.refl _ w2).drew
      have W1 := fun W => (wrap_any s.1 W hs.1).mono (fun e w' h => (⟨h.1, h.2.symm⟩ : e = _ ∧ w' = W))
      have W2 := fun W => (wrap_any s.2 W hs.2).mono (fun e w' h => (⟨h.1, h.2.symm⟩ : e = _ ∧ w' = W))
      have HM : Hid (mkB first s = (m32 (first + m32 s.1), m32 (first + m32 s.2))) := Lib.hid rfl
      have b1 := m32_bd s.1
      have b2 := m32_bd s.2
      generalize m32 s.1 = p at *
      generalize m32 s.2 = q at *
      clear HP
      obtain ⟨i0, hi, hz0, hz1, hz2⟩ := info_split info_block
      have sd : SpAt w2.drew W.heap.size s := s2
      have K0 : w2.drew.cell? ⟨Bl, 0, none⟩ = some (.slice va L.length vc) ∧ w2.drew.cell? ⟨Bf, 0, none⟩ = some (.int .u32 first) ∧ w2.drew.cell? ⟨W.heap.size, 0, none⟩ = some (.int .i64 s.1) ∧ w2.drew.cell? ⟨W.heap.size, 1, none⟩ = some (.int .i64 s.2) := ⟨kd.cl, kd.cf, sd.c0, sd.c1⟩
      have kA := (k2.later (bal (.cells #[.int .u32 (IntKind.u32.wrap (first + p)), .int .u32 (IntKind.u32.wrap (first + q))] 42))).later (Below.refl _ _).drew
      have sA : SpAt (w2.alloc (.cells #[.int .u32 (IntKind.u32.wrap (first + p)), .int .u32 (IntKind.u32.wrap (first + q))] 42)).drew W.heap.size s := SpAt.later (w := w2.alloc _) (s2.later (bal _)) (Below.refl _ _).drew
      have KA : (w2.alloc (.cells #[.int .u32 (IntKind.u32.wrap (first + p)), .int .u32 (IntKind.u32.wrap (first + q))] 42)).drew.cell? ⟨Bl, 0, none⟩ = some (.slice va L.length vc) ∧ (w2.alloc (.cells #[.int .u32 (IntKind.u32.wrap (first + p)), .int .u32 (IntKind.u32.wrap (first + q))] 42)).drew.cell? ⟨Bf, 0, none⟩ = some (.int .u32 first) ∧ (w2.alloc (.cells #[.int .u32 (IntKind.u32.wrap (first + p)), .int .u32 (IntKind.u32.wrap (first + q))] 42)).drew.cell? ⟨W.heap.size, 0, none⟩ = some (.int .i64 s.1) ∧ (w2.alloc (.cells #[.int .u32 (IntKind.u32.wrap (first + p)), .int .u32 (IntKind.u32.wrap (first + q))] 42)).drew.cell? ⟨W.heap.size, 1, none⟩ = some (.int .i64 s.2) := ⟨kA.cl, kA.cf, sA.c0, sA.c1⟩
      have HSRC : Hid (Src Try.prog 2 23 (.slice (some ⟨w2.heap.size, 0, none⟩) 1 1) 1 [.int .u32 (IntKind.u32.wrap (first + p)), .int .u32 (IntKind.u32.wrap (first + q))] (w2.alloc (.cells #[.int .u32 (IntKind.u32.wrap (first + p)), .int .u32 (IntKind.u32.wrap (first + q))] 42)).drew) := Lib.hid (block_src (Y := (w2.alloc (.cells #[.int .u32 (IntKind.u32.wrap (first + p)), .int .u32 (IntKind.u32.wrap (first + q))] 42)).drew) (s := (IntKind.u32.wrap (first + p), IntKind.u32.wrap (first + q))) (BkAt.later (w := w2.alloc _) (bk_new w2 _) (Below.refl _ _).drew))
      have HKA := Lib.hid kA
      have hbb := kA.hb
      clear kd kA sd sA
      go_wp2_with fail
      clear cl cf c0 c1
      obtain ⟨kb1, kb2⟩ := KA
      obtain ⟨k01, k02⟩ := K0
      have HVB := Lib.hid hvb
      have HLT := Lib.hid hlt
      have HS2 := Lib.hid s2
      clear hvb hlt
      refine wp_region_noPanic ?_
      refine wp_region_held_drew (S := (fun w' => w'.cell? ⟨Bf, 0, none⟩ = some (.int .u32 first) ∧ w'.cell? ⟨W.heap.size, 0, none⟩ = some (.int .i64 s.1) ∧ w'.cell? ⟨W.heap.size, 1, none⟩ = some (.int .i64 s.2))) (by kernel_rfl) ?_ (fun hHeld => ?_)
      · ((try dsimp only); with_reducible exact k02)
      refine wpAnyH_take (i := 1) (oi := _) (v := ?_) rfl (by kernel_rfl) (by kernel_rfl) (by kernel_rfl) (fun _ _ _ h => h) (Or.inl ⟨by rfl, ?_⟩) (by assumption) ?_
      rotate_left
      · (first | (intro v hSw; (try dsimp only at hSw); go_simp; done) | (intro v hSw; (try dsimp only at hSw); go_simp; with_reducible rfl))
      refine wpAnyH_take (i := 2) (oi := _) (v := ?_) rfl (by kernel_rfl) (by kernel_rfl) (by kernel_rfl) (fun _ _ _ h => h) (Or.inl ⟨by rfl, ?_⟩) (by assumption) ?_
      rotate_left
      · (first | (intro v hSw; (try dsimp only at hSw); go_simp; done) | (intro v hSw; (try dsimp only at hSw); go_simp; with_reducible rfl))
      refine wpAnyH_take (i := 3) (oi := _) (v := ?_) rfl (by kernel_rfl) (by kernel_rfl) (by kernel_rfl) (fun _ _ _ h => h) (Or.inl ⟨by rfl, ?_⟩) (by assumption) ?_
      rotate_left
      · (first | (intro v hSw; (try dsimp only at hSw); go_simp; done) | (intro v hSw; (try dsimp only at hSw); go_simp; with_reducible rfl))
      refine wpAnyH_take (i := 6) (oi := _) (v := ?_) rfl (by kernel_rfl) (by kernel_rfl) (by kernel_rfl) (fun _ _ _ h => h) (Or.inl ⟨by rfl, ?_⟩) (by assumption) ?_
      rotate_left
      · (first | (intro v hSw; (try dsimp only at hSw); go_simp; done) | (intro v hSw; (try dsimp only at hSw); go_simp; with_reducible rfl))
      refine wpAnyH_take (i := 7) (oi := _) (v := ?_) rfl (by kernel_rfl) (by kernel_rfl) (by kernel_rfl) (fun _ _ _ h => h) (Or.inl ⟨by rfl, ?_⟩) (by assumption) ?_
      rotate_left
      · (first | (intro v hSw; (try dsimp only at hSw); go_simp; done) | (intro v hSw; (try dsimp only at hSw); go_simp; with_reducible rfl))
      refine wpAnyH_take (i := 8) (oi := _) (v := ?_) rfl (by kernel_rfl) (by kernel_rfl) (by kernel_rfl) (fun _ _ _ h => h) (Or.inl ⟨by rfl, ?_⟩) (by assumption) ?_
      rotate_left
      · (first | (intro v hSw; (try dsimp only at hSw); go_simp; done) | (intro v hSw; (try dsimp only at hSw); go_simp; with_reducible rfl))
      refine wpAnyH_ready (rs := [0, 4]) (by kernel_rfl) (by simp) ?_
      refine AllReadyH.cons (o := _) rfl (fun K hK => ?_) ?_
      · go_simp
        refine hK.out _ _ ?_ (fun hHeld => ?_)
        · ((try dsimp only); with_reducible first | exact k02 | exact kb2)
        clear hK K
        refine wpAnyH_ready (rs := [4]) (by kernel_rfl) (by simp) ?_
        refine AllReadyH.cons (o := _) rfl (fun K hK => ?_) ?_
        · go_simp
          go_at_call 26
          (with_reducible refine (W1 _).mono ?_)
          rintro e w5 ⟨rfl, rfl⟩
          (try go_wp2_with fail)
          refine hK.out _ _ ?_ (fun hHeld => ?_)
          · ((try dsimp only); with_reducible first | exact k02 | exact kb2)
          clear hK K
          refine wpAnyH_take (i := 5) (oi := _) (v := ?_) rfl (by kernel_rfl) (by kernel_rfl) (by kernel_rfl) (fun _ _ _ h => h) (Or.inl ⟨by rfl, ?_⟩) (by assumption) ?_
          rotate_left
          · (first | (intro v hSw; (try dsimp only at hSw); go_simp; done) | (intro v hSw; (try dsimp only at hSw); go_simp; with_reducible rfl))
          refine wpAnyH_ready (rs := [9]) (by kernel_rfl) (by simp) ?_
          refine AllReadyH.cons (o := _) rfl (fun K hK => ?_) ?_
          · go_simp
            go_at_call 26
            (with_reducible refine (W2 _).mono ?_)
            rintro e w5 ⟨rfl, rfl⟩
            (try go_wp2_with fail)
            refine hK.out _ _ ?_ (fun hHeld => ?_)
            · ((try dsimp only); with_reducible first | exact k02 | exact kb2)
            clear hK K
            refine wpAnyH_take (i := 10) (oi := _) (v := ?_) rfl (by kernel_rfl) (by kernel_rfl) (by kernel_rfl) (fun _ _ _ h => h) (Or.inl ⟨by rfl, ?_⟩) (by assumption) ?_
            rotate_left
            · (first | (intro v hSw; (try dsimp only at hSw); go_simp; done) | (intro v hSw; (try dsimp only at hSw); go_simp; with_reducible rfl))
            refine wpAnyH_take (i := 11) (oi := _) (v := ?_) rfl (by kernel_rfl) (by kernel_rfl) (by kernel_rfl) (fun _ _ _ h => h) (Or.inl ⟨by rfl, ?_⟩) (by assumption) ?_
            rotate_left
            · (first | (intro v hSw; (try dsimp only at hSw); go_simp; done) | (intro v hSw; (try dsimp only at hSw); go_simp; with_reducible rfl))
            refine wpAnyH_ready (rs := [12]) (by kernel_rfl) (by simp) ?_
            refine AllReadyH.cons (o := _) rfl (fun K hK => ?_) ?_
            · go_simp
              refine hK.out _ _ ?_ (fun hHeld => ?_)
              · ((try dsimp only); with_reducible first | exact k02 | exact kb2)
              clear hK K
              refine wpAnyH_ready (rs := [13]) (by kernel_rfl) (by simp) ?_
              refine AllReadyH.cons (o := _) rfl (fun K hK => ?_) ?_
              · (refine step_append_sz _ rfl (.tmp 12) (.tmp 24) 23 23 rfl base 42 i0 (.agg #[.int .u32 0, .int .u32 0]) 2 8 Try.underlying23 hi hz0 hz1 (by decide) hz2 rfl (.slice va L.length vc) L.length (bkCells L) rfl HKA.out.own _ rfl 1 [.int .u32 (IntKind.u32.wrap (first + p)), .int .u32 (IntKind.u32.wrap (first + q))] HSRC.out (by unfold maxLen; omega) (by omega) hbb ?_; intro a' cap' w1 ho hg hw)
                obtain ⟨hL, hT⟩ := HKA.out.app (s := (IntKind.u32.wrap (first + p), IntKind.u32.wrap (first + q))) h4 ho hg hw
                obtain ⟨KC, KF, KN, KM⟩ := app_cells HKA.out hg HVB.out hWb HS2.out hT (.slice a' (L.length + 1) cap')
                refine hK.out _ _ ?_ (fun hHeld => ?_)
                · ((try dsimp only); with_reducible exact KN)
                clear hK K
                refine wpAnyH_ready (rs := [14]) (by kernel_rfl) (by simp) ?_
                refine AllReadyH.cons (o := _) rfl (fun K hK => ?_) ?_
                · go_simp
                  refine hK.out _ _ ?_ (fun hHeld => ?_)
                  · ((try dsimp only); with_reducible exact KM)
                  clear hK K
                  refine wpAnyH_done (by kernel_rfl) ?_ _
                  refine NoPanic.normal ?_
                  go_wp2_with fail
                  go_end0
                  exact ⟨⟨_, rfl⟩, _, by rw [H.out, HM.out]; exact hL⟩
                exact AllReadyH.nil
              exact AllReadyH.nil
            exact AllReadyH.nil
          exact AllReadyH.nil
        exact AllReadyH.nil
      refine AllReadyH.cons (o := _) rfl (fun K hK => ?_) ?_
      · go_simp
        go_at_call 26
        (with_reducible refine (W1 _).mono ?_)
        rintro e w5 ⟨rfl, rfl⟩
        (try go_wp2_with fail)
        refine hK.out _ _ ?_ (fun hHeld => ?_)
        · ((try dsimp only); with_reducible first | exact k02 | exact kb2)
        clear hK K
        refine wpAnyH_take (i := 5) (oi := _) (v := ?_) rfl (by kernel_rfl) (by kernel_rfl) (by kernel_rfl) (fun _ _ _ h => h) (Or.inl ⟨by rfl, ?_⟩) (by assumption) ?_
        rotate_left
        · (first | (intro v hSw; (try dsimp only at hSw); go_simp; done) | (intro v hSw; (try dsimp only at hSw); go_simp; with_reducible rfl))
        refine wpAnyH_ready (rs := [0, 9]) (by kernel_rfl) (by simp) ?_
        refine AllReadyH.cons (o := _) rfl (fun K hK => ?_) ?_
        · go_simp
          refine hK.out _ _ ?_ (fun hHeld => ?_)
          · ((try dsimp only); with_reducible first | exact k02 | exact kb2)
          clear hK K
          refine wpAnyH_ready (rs := [9]) (by kernel_rfl) (by simp) ?_
          refine AllReadyH.cons (o := _) rfl (fun K hK => ?_) ?_
          · go_simp
            go_at_call 26
            (with_reducible refine (W2 _).mono ?_)
            rintro e w5 ⟨rfl, rfl⟩
            (try go_wp2_with fail)
            refine hK.out _ _ ?_ (fun hHeld => ?_)
            · ((try dsimp only); with_reducible first | exact k02 | exact kb2)
            clear hK K
            refine wpAnyH_take (i := 10) (oi := _) (v := ?_) rfl (by kernel_rfl) (by kernel_rfl) (by kernel_rfl) (fun _ _ _ h => h) (Or.inl ⟨by rfl, ?_⟩) (by assumption) ?_
            rotate_left
            · (first | (intro v hSw; (try dsimp only at hSw); go_simp; done) | (intro v hSw; (try dsimp only at hSw); go_simp; with_reducible rfl))
            refine wpAnyH_take (i := 11) (oi := _) (v := ?_) rfl (by kernel_rfl) (by kernel_rfl) (by kernel_rfl) (fun _ _ _ h => h) (Or.inl ⟨by rfl, ?_⟩) (by assumption) ?_
            rotate_left
            · (first | (intro v hSw; (try dsimp only at hSw); go_simp; done) | (intro v hSw; (try dsimp only at hSw); go_simp; with_reducible rfl))
            refine wpAnyH_ready (rs := [12]) (by kernel_rfl) (by simp) ?_
            refine AllReadyH.cons (o := _) rfl (fun K hK => ?_) ?_
            · go_simp
              refine hK.out _ _ ?_ (fun hHeld => ?_)
              · ((try dsimp only); with_reducible first | exact k02 | exact kb2)
              clear hK K
              refine wpAnyH_ready (rs := [13]) (by kernel_rfl) (by simp) ?_
              refine AllReadyH.cons (o := _) rfl (fun K hK => ?_) ?_
              · (refine step_append_sz _ rfl (.tmp 12) (.tmp 24) 23 23 rfl base 42 i0 (.agg #[.int .u32 0, .int .u32 0]) 2 8 Try.underlying23 hi hz0 hz1 (by decide) hz2 rfl (.slice va L.length vc) L.length (bkCells L) rfl HKA.out.own _ rfl 1 [.int .u32 (IntKind.u32.wrap (first + p)), .int .u32 (IntKind.u32.wrap (first + q))] HSRC.out (by unfold maxLen; omega) (by omega) hbb ?_; intro a' cap' w1 ho hg hw)
                obtain ⟨hL, hT⟩ := HKA.out.app (s := (IntKind.u32.wrap (first + p), IntKind.u32.wrap (first + q))) h4 ho hg hw
                obtain ⟨KC, KF, KN, KM⟩ := app_cells HKA.out hg HVB.out hWb HS2.out hT (.slice a' (L.length + 1) cap')
                refine hK.out _ _ ?_ (fun hHeld => ?_)
                · ((try dsimp only); with_reducible exact KN)
                clear hK K
                refine wpAnyH_ready (rs := [14]) (by kernel_rfl) (by simp) ?_
                refine AllReadyH.cons (o := _) rfl (fun K hK => ?_) ?_
                · go_simp
                  refine hK.out _ _ ?_ (fun hHeld => ?_)
                  · ((try dsimp only); with_reducible exact KM)
                  clear hK K
                  refine wpAnyH_done (by kernel_rfl) ?_ _
                  refine NoPanic.normal ?_
                  go_wp2_with fail
                  go_end0
                  exact ⟨⟨_, rfl⟩, _, by rw [H.out, HM.out]; exact hL⟩
                exact AllReadyH.nil
              exact AllReadyH.nil
            exact AllReadyH.nil
          exact AllReadyH.nil
        refine AllReadyH.cons (o := _) rfl (fun K hK => ?_) ?_
        · go_simp
          go_at_call 26
          (with_reducible refine (W2 _).mono ?_)
          rintro e w5 ⟨rfl, rfl⟩
          (try go_wp2_with fail)
          refine hK.out _ _ ?_ (fun hHeld => ?_)
          · ((try dsimp only); with_reducible first | exact k02 | exact kb2)
          clear hK K
          refine wpAnyH_take (i := 10) (oi := _) (v := ?_) rfl (by kernel_rfl) (by kernel_rfl) (by kernel_rfl) (fun _ _ _ h => h) (Or.inl ⟨by rfl, ?_⟩) (by assumption) ?_
          rotate_left
          · (first | (intro v hSw; (try dsimp only at hSw); go_simp; done) | (intro v hSw; (try dsimp only at hSw); go_simp; with_reducible rfl))
          refine wpAnyH_take (i := 11) (oi := _) (v := ?_) rfl (by kernel_rfl) (by kernel_rfl) (by kernel_rfl) (fun _ _ _ h => h) (Or.inl ⟨by rfl, ?_⟩) (by assumption) ?_
          rotate_left
          · (first | (intro v hSw; (try dsimp only at hSw); go_simp; done) | (intro v hSw; (try dsimp only at hSw); go_simp; with_reducible rfl))
          refine wpAnyH_ready (rs := [0, 12]) (by kernel_rfl) (by simp) ?_
          refine AllReadyH.cons (o := _) rfl (fun K hK => ?_) ?_
          · go_simp
            refine hK.out _ _ ?_ (fun hHeld => ?_)
            · ((try dsimp only); with_reducible first | exact k02 | exact kb2)
            clear hK K
            refine wpAnyH_ready (rs := [12]) (by kernel_rfl) (by simp) ?_
            refine AllReadyH.cons (o := _) rfl (fun K hK => ?_) ?_
            · go_simp
              refine hK.out _ _ ?_ (fun hHeld => ?_)
              · ((try dsimp only); with_reducible first | exact k02 | exact kb2)
              clear hK K
              refine wpAnyH_ready (rs := [13]) (by kernel_rfl) (by simp) ?_
              refine AllReadyH.cons (o := _) rfl (fun K hK => ?_) ?_
              · (refine step_append_sz _ rfl (.tmp 12) (.tmp 24) 23 23 rfl base 42 i0 (.agg #[.int .u32 0, .int .u32 0]) 2 8 Try.underlying23 hi hz0 hz1 (by decide) hz2 rfl (.slice va L.length vc) L.length (bkCells L) rfl HKA.out.own _ rfl 1 [.int .u32 (IntKind.u32.wrap (first + p)), .int .u32 (IntKind.u32.wrap (first + q))] HSRC.out (by unfold maxLen; omega) (by omega) hbb ?_; intro a' cap' w1 ho hg hw)
                obtain ⟨hL, hT⟩ := HKA.out.app (s := (IntKind.u32.wrap (first + p), IntKind.u32.wrap (first + q))) h4 ho hg hw
                obtain ⟨KC, KF, KN, KM⟩ := app_cells HKA.out hg HVB.out hWb HS2.out hT (.slice a' (L.length + 1) cap')
                refine hK.out _ _ ?_ (fun hHeld => ?_)
                · ((try dsimp only); with_reducible exact KN)
                clear hK K
                refine wpAnyH_ready (rs := [14]) (by kernel_rfl) (by simp) ?_
                refine AllReadyH.cons (o := _) rfl (fun K hK => ?_) ?_
                · go_simp
                  refine hK.out _ _ ?_ (fun hHeld => ?_)
                  · ((try dsimp only); with_reducible exact KM)
                  clear hK K
                  refine wpAnyH_done (by kernel_rfl) ?_ _
                  refine NoPanic.normal ?_
                  go_wp2_with fail
                  go_end0
                  exact ⟨⟨_, rfl⟩, _, by rw [H.out, HM.out]; exact hL⟩
                exact AllReadyH.nil
              exact AllReadyH.nil
            exact AllReadyH.nil
          refine AllReadyH.cons (o := _) rfl (fun K hK => ?_) ?_
          · go_simp
            refine hK.out _ _ ?_ (fun hHeld => ?_)
            · ((try dsimp only); with_reducible first | exact k02 | exact kb2)
            clear hK K
            refine wpAnyH_ready (rs := [0]) (by kernel_rfl) (by simp) ?_
            refine AllReadyH.cons (o := _) rfl (fun K hK => ?_) ?_
            · go_simp
              refine hK.out _ _ ?_ (fun hHeld => ?_)
              · ((try dsimp only); with_reducible first | exact k02 | exact kb2)
              clear hK K
              refine wpAnyH_ready (rs := [13]) (by kernel_rfl) (by simp) ?_
              refine AllReadyH.cons (o := _) rfl (fun K hK => ?_) ?_
              · (refine step_append_sz _ rfl (.tmp 12) (.tmp 24) 23 23 rfl base 42 i0 (.agg #[.int .u32 0, .int .u32 0]) 2 8 Try.underlying23 hi hz0 hz1 (by decide) hz2 rfl (.slice va L.length vc) L.length (bkCells L) rfl HKA.out.own _ rfl 1 [.int .u32 (IntKind.u32.wrap (first + p)), .int .u32 (IntKind.u32.wrap (first + q))] HSRC.out (by unfold maxLen; omega) (by omega) hbb ?_; intro a' cap' w1 ho hg hw)
                obtain ⟨hL, hT⟩ := HKA.out.app (s := (IntKind.u32.wrap (first + p), IntKind.u32.wrap (first + q))) h4 ho hg hw
                obtain ⟨KC, KF, KN, KM⟩ := app_cells HKA.out hg HVB.out hWb HS2.out hT (.slice a' (L.length + 1) cap')
                refine hK.out _ _ ?_ (fun hHeld => ?_)
                · ((try dsimp only); with_reducible exact KN)
                clear hK K
                refine wpAnyH_ready (rs := [14]) (by kernel_rfl) (by simp) ?_
                refine AllReadyH.cons (o := _) rfl (fun K hK => ?_) ?_
                · go_simp
                  refine hK.out _ _ ?_ (fun hHeld => ?_)
                  · ((try dsimp only); with_reducible exact KM)
                  clear hK K
                  refine wpAnyH_done (by kernel_rfl) ?_ _
                  refine NoPanic.normal ?_
                  go_wp2_with fail
                  go_end0
                  exact ⟨⟨_, rfl⟩, _, by rw [H.out, HM.out]; exact hL⟩
                exact AllReadyH.nil
              exact AllReadyH.nil
            exact AllReadyH.nil
          exact AllReadyH.nil
        exact AllReadyH.nil
      exact AllReadyH.nil
    · have H : Hid (LL = L) := Lib.hid (by rw [HP.out, if_neg (by omega)])
      have hl4 : L.length = 4 := by omega
      clear HP
      go_wp2_with fail
      go_end0
      exact ⟨⟨_, rfl⟩, _, by rw [H.out]; exact k2⟩
  · have H : Hid (LL = L) := Lib.hid (by rw [HP.out, if_neg (by omega)])
    clear HP
    go_wp2_with fail
    go_end0
    exact ⟨⟨_, rfl⟩, _, by rw [H.out]; exact k2⟩
end Go.Proofs.Ytegfmjkngbnnfaa.dp
