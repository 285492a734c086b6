/-
  The reference of layer 21: Write, Read; Same.
-/
import Derived.Test.YtjkjbhapkmamkaaBufS
import Derived.Test.YtjkjbhapkmamkaaRef2
namespace Go.Proofs.Ytjkjbhapkmamkaa.bf
open Go.RowKit aid mem sp
attribute [local go_sem ↓] Go.wp_at_zero Go.wp_at_succ
set_option linter.unusedVariables false
set_option linter.unusedSimpArgs false

set_option maxHeartbeats 4000000 in
theorem rwrite_any {w : World} {x : Bf} {a : Option Addr} {n cap : Nat} (h : RRow w a n cap x.l) (ho : Ok x) {b : Option Addr} {m bc : Nat} {p : List Int} (hp : SlA .u8 w b m bc p) :
    Calls Try.prog 18 #[rV x a n cap, .slice b m bc] w (RetA (wrX x p) (.int .i64 (wrE x m)) (blk a cap) w) := by
  have hlen := rrow_len h
  have hpl := hp.len
  have hple := hp.le
  have hpm := hp.most
  unfold maxLen at hpm
  have HR := Lib.hid (r2_new h)
  have hoe := ho.e; have hon := ho.n; have hom := ho.m1
  have hw1 : IntKind.i64.wrap ((x.most : Int) - (n : Int)) = (x.most : Int) - (n : Int) := IntWalk.i64_in _ (by omega)
  have hw2 : IntKind.i64.wrap ((4611686018427387904 : Int) - (x.una : Int)) = (4611686018427387904 : Int) - (x.una : Int) := IntWalk.i64_in _ (by omega)
  have hw3 : IntKind.i64.wrap ((4611686018427387904 : Int) - (x.una : Int) - (n : Int)) = (4611686018427387904 : Int) - (x.una : Int) - (n : Int) := IntWalk.i64_in _ (by omega)
  rcases wrE_cases x m with ⟨he, h1⟩ | ⟨he, h1, h2⟩ | ⟨he, h1, h2⟩
  · have HX : Hid (wrX x p = x) := Lib.hid (by unfold wrX; rw [hpl, if_neg (by omega)])
    rw [he, HX.out]
    have h3 : (x.most : Int) - (n : Int) < (m : Int) := by omega
    clear h he
    go_enter Try.func18, Try.ntmps18
    go_upto_region 1 with fail
    generalize (w.alloc (rO x a n cap)).alloc zO = W at *
    have HF := Lib.hid (HR.out.fin (S := blk a cap) (fun b hb => .inl hb))
    obtain ⟨r0, r1, r2⟩ := st_of HR.out.b0; obtain ⟨z0, z1, z2⟩ := st_of HR.out.rs; obtain ⟨f0, f1, f2⟩ := fz_of HR.out.rs
    obtain ⟨y0, y1, y2⟩ := st_of HF.out.1
    go_wp2_with fail
    exact bodyPost_ret (v := .tuple #[rV x a n cap, .int .i64 4]) (by simp [results, Try.results18, go_sem, y0, y1, y2]) rfl ⟨a, n, cap, rfl, HF.out.2⟩
  · have HX : Hid (wrX x p = x) := Lib.hid (by unfold wrX; rw [hpl, if_neg (by omega)])
    rw [he, HX.out]
    have h3 : ¬ (x.most : Int) - (n : Int) < (m : Int) := by omega
    have h4 : (4611686018427387904 : Int) - (x.una : Int) - (n : Int) < (m : Int) := by omega
    clear h he
    go_enter Try.func18, Try.ntmps18
    go_upto_region 1 with fail
    generalize (w.alloc (rO x a n cap)).alloc zO = W at *
    have HF := Lib.hid (HR.out.fin (S := blk a cap) (fun b hb => .inl hb))
    obtain ⟨r0, r1, r2⟩ := st_of HR.out.b0; obtain ⟨z0, z1, z2⟩ := st_of HR.out.rs; obtain ⟨f0, f1, f2⟩ := fz_of HR.out.rs
    obtain ⟨y0, y1, y2⟩ := st_of HF.out.1
    go_wp2_with fail
    exact bodyPost_ret (v := .tuple #[rV x a n cap, .int .i64 3]) (by simp [results, Try.results18, go_sem, y0, y1, y2]) rfl ⟨a, n, cap, rfl, HF.out.2⟩
  · have HX : Hid (wrX x p = ⟨x.una, x.most, x.l ++ p⟩) := Lib.hid (by unfold wrX; rw [hpl, if_pos he])
    rw [he, HX.out]
    have h3 : ¬ (x.most : Int) - (n : Int) < (m : Int) := by omega
    have h4 : ¬ (4611686018427387904 : Int) - (x.una : Int) - (n : Int) < (m : Int) := by omega
    obtain ⟨i0, hi, hz0, hz1, hz2⟩ := info_split info_u8
    have HP := Lib.hid hp
    have HNN := Lib.hid (show n + m ≤ 65536 from by omega)
    clear h he hp
    go_enter Try.func18, Try.ntmps18
    go_upto_region 1 with fail
    generalize (w.alloc (rO x a n cap)).alloc zO = W at *
    obtain ⟨r0, r1, r2⟩ := st_of HR.out.b0
    go_upto_region 5 with fail
    have hb3 := bal (w := W) (.cells #[] 5)
    have HR3 := Lib.hid (HR.out.later hb3)
    have r2' := (st_of HR3.out.b0).2.2
    have HSRC := Lib.hid (HR3.out.row.sla.src (P := Try.prog) Try.underlying23)
    have HO := Lib.hid (own_empty W w.heap.size HR.out.below.size)
    have HWS := Lib.hid (show w.heap.size + 1 < W.heap.size from lt_of_block HR.out.rs)
    clear r0 r1 r2 hb3
    go_upto_region 6 with (at_builtin; go_must (refine wpList_append_any _ rfl (.tmp 28) (.tmp 30) 23 23 rfl w.heap.size 5 i0 (.int .u8 0) 1 Try.underlying23 hi hz0 hz1 hz2 rfl (.slice (some ⟨W.heap.size, 0, none⟩) 0 0) 0 [] rfl HO.out (.slice a n cap) rfl n (ints .u8 x.l) HSRC.out (by have := HNN.out; unfold maxLen; omega) (by have := HNN.out; omega) (by have := HWS.out; simp; omega) ?_); intro a1 cap1 w3 ho3 hg3 hat3)
    simp only [Nat.zero_add, List.nil_append] at ho3 hat3 ⊢
    have hb3 : Below W.heap.size W w3 := (bal (w := W) (.cells #[] 5)).trans (below_grown hg3 (by simp) (fun k hk => by simp [Value.ownBlock] at hk; omega))
    have HR4 := Lib.hid (HR.out.later hb3)
    have HP4 := Lib.hid ((HP.out.later HR4.out.below).src (P := Try.prog) Try.underlying23)
    have HO3 := Lib.hid ho3
    have HWS3 := Lib.hid (show W.heap.size ≤ w3.heap.size from hb3.size)
    have HAT := Lib.hid (show ∀ k, Value.ownBlock (.slice a1 n cap1) = some k → W.heap.size ≤ k from fun k hk => by
      rcases hat3 with q | q
      · rw [q] at hk; simp [Value.ownBlock] at hk; omega
      · rw [q] at hk; simp at hk; omega)
    clear r2' HR3 HSRC HO hg3 hat3 ho3 hb3
    obtain ⟨r0, r1, r2⟩ := st_of HR4.out.b0
    have g2 := (fz_of HR4.out.b0).2.2
    have HFIN := Lib.hid (fun (a2 : Option Addr) (cap2 : Nat) (w4 : World) (ho4 : w4.ownsRow w.heap.size 5 1 (.slice a2 (n + m) cap2) (n + m) (ints .u8 x.l ++ ints .u8 p)) (hg4 : w3.grownBy w4 (Value.ownBlock (.slice a1 n cap1))) (hat4 : Value.ownBlock (.slice a2 (n + m) cap2) = Value.ownBlock (.slice a1 n cap1) ∨ Value.ownBlock (.slice a2 (n + m) cap2) = some w3.heap.size) =>
      show R2 w ⟨x.una, x.most, x.l ++ p⟩ a2 (n + m) cap2 (w4.setCell ⟨w.heap.size, 2, none⟩ (.slice a2 (n + m) cap2)) ∧ (∀ b ∈ blk a2 cap2, w.heap.size ≤ b) ∧ w4.cell? ⟨w.heap.size, 2, none⟩ = some (.slice a n cap) ∧ w4.frozen? ⟨w.heap.size, 2, none⟩ = false from by
        have hws := HWS.out
        have hrw := HR4.out
        have hne : ∀ k, Value.ownBlock (.slice a1 n cap1) = some k → w.heap.size + 1 < k := fun k hk => by have := HAT.out k hk; omega
        have e0 : w4.heap[w.heap.size]? = some (rO x a n cap) := (hg4.block _ (lt_of_block hrw.b0) (fun e => by have := hne _ e.symm; omega)).trans hrw.b0
        have e1 : w4.heap[w.heap.size + 1]? = some (rO zB none 0 0) := (hg4.block _ (lt_of_block hrw.rs) (fun e => by have := hne _ e.symm; omega)).trans hrw.rs
        have hbl : Below w.heap.size w w4 := hrw.below.trans (below_grown hg4 hrw.below.size (fun k hk => by have := hne k hk; omega))
        obtain ⟨a3, cap3, hv, hsl, hbk⟩ := slr_of_own ho4
        injection hv with v1 v2 v3
        subst v1 v3
        have hk := kset w4 w.heap.size 2 (.slice a2 (n + m) cap2)
        rw [← ints_app] at hsl
        have hrr : RRow w4 a2 (n + m) cap2 (x.l ++ p) := hsl
        refine ⟨⟨setr e0 _ rfl, hk.heap (by simp) e1, hrr.keep hk (fun b hb e => ?_), hbl.trans (hk.below (by simp) hbl.size)⟩, hbk, cofr e0 2 _ rfl, fofr e0 2⟩
        simp at e
        subst e
        exact rrow_typ hrr e0 nt.1 hb)
    go_upto_region 7 with (at_builtin; go_must (refine wpList_append_any _ rfl (.tmp 32) (.tmp 33) 23 23 rfl w.heap.size 5 i0 (.int .u8 0) 1 Try.underlying23 hi hz0 hz1 hz2 rfl (.slice a1 n cap1) n (ints .u8 x.l) rfl HO3.out (.slice b m bc) rfl m (ints .u8 p) HP4.out (by have := HNN.out; unfold maxLen; omega) (by have := HNN.out; omega) HR4.out.below.size ?_); intro a2 cap2 w4 ho4 hg4 hat4; obtain ⟨t1, t2, t3, t4⟩ := HFIN.out a2 cap2 w4 ho4 hg4 hat4; have HT := Lib.hid (And.intro t1 t2); clear t1 t2)
    clear r0 r1 r2 g2 ho4 hg4 hat4 t3 t4 HFIN
    generalize w4.setCell ⟨w.heap.size, 2, none⟩ (.slice a2 (n + m) cap2) = U at *
    have HF := Lib.hid (HT.out.1.fin (S := blk a cap) (fun b hb => .inr (HT.out.2 b hb)))
    obtain ⟨r0, r1, r2⟩ := st_of HT.out.1.b0; obtain ⟨z0, z1, z2⟩ := st_of HT.out.1.rs; obtain ⟨f0, f1, f2⟩ := fz_of HT.out.1.rs
    obtain ⟨y0, y1, y2⟩ := st_of HF.out.1
    go_wp2_with fail
    exact bodyPost_ret (v := .tuple #[rV ⟨x.una, x.most, x.l ++ p⟩ a2 (n + m) cap2, .int .i64 0]) (by simp [results, Try.results18, go_sem, y0, y1, y2]) rfl ⟨_, _, _, rfl, HF.out.2⟩
/-- what is read of the document's -/
def RetD (x : Bf) (s : Int × Int) (S : List Nat) (w : World) (e : Ending) (w' : World) : Prop :=
  ∃ a' n' cap', e = .returned (.tuple #[.slice a' n' cap', .int .i64 (rdE x s)]) ∧ RRow w' a' n' cap' (rdL x s) ∧ Below w.heap.size w w' ∧ ∀ b ∈ blk a' cap', b ∈ S
/-- the boxes of Read -/
structure R4 (w : World) (x : Bf) (a : Option Addr) (n cap : Nat) (s : Int × Int) (W : World) : Prop where
  b0 : W.heap[w.heap.size]? = some (rO x a n cap)
  bs : SpAt W (w.heap.size + 1) s
  row : RRow W a n cap x.l
  below : Below w.heap.size w W
theorem R4.later {w W W' : World} {x : Bf} {a : Option Addr} {n cap : Nat} {s : Int × Int} (h : R4 w x a n cap s W) (hb : Below W.heap.size W W') : R4 w x a n cap s W' :=
  ⟨(hb.block _ (lt_of_block h.b0)).trans h.b0, h.bs.later hb, h.row.later hb, h.below.trans (hb.mono h.below.size)⟩
theorem r4_new {w : World} {x : Bf} {a : Option Addr} {n cap : Nat} (h : RRow w a n cap x.l) (s : Int × Int) : R4 w x a n cap s ((w.alloc (rO x a n cap)).alloc (.cells #[.int .i64 s.1, .int .i64 s.2] 25)) := by
  have b1 := bal (w := w) (rO x a n cap)
  have y1 := heap_alloc_new w (rO x a n cap)
  have z1 : (w.alloc (rO x a n cap)).heap.size = w.heap.size + 1 := by simp
  have h1 := h.later b1
  generalize w.alloc (rO x a n cap) = w1 at *
  have b3 := bal (w := w1) (.cells #[.int .i64 s.1, .int .i64 s.2] 25)
  have y4 := sp_new w1 s
  rw [z1] at y4
  exact ⟨(b3.block _ (lt_of_block y1)).trans y1, y4, h1.later b3, b1.trans (b3.mono b1.size)⟩
set_option maxHeartbeats 4000000 in
theorem rread_any {w : World} {x : Bf} {a : Option Addr} {n cap : Nat} (h : RRow w a n cap x.l) (ho : Ok x) (s : Int × Int) :
    Calls Try.prog 20 #[rV x a n cap, spV s] w (RetD x s (blk a cap) w) := by
  have hlen := rrow_len h
  have hle := h.le
  have HR := Lib.hid (r4_new h s)
  have HE := Lib.hid (fun (hb : rdB x s = false) w' (hw : Below w.heap.size w w') => show RetD x s (blk a cap) w (.returned (.tuple #[.slice none 0 0, .int .i64 3])) w' from by
    refine ⟨none, 0, 0, by unfold rdE; rw [hb]; rfl, ?_, hw, fun b hb => by simp [blk_zero] at hb⟩
    have : rdL x s = [] := by unfold rdL; rw [hb]; rfl
    rw [this]
    exact SlR.nil _ _ 1)
  have hoe := ho.e; have hon := ho.n; have hom := ho.m1
  have hw1 : IntKind.i64.wrap ((x.una : Int) + (n : Int)) = (x.una : Int) + (n : Int) := IntWalk.i64_in _ (by omega)
  obtain ⟨s1, s2⟩ := s
  have HMY := Lib.hid (fun W => rmay_any (s1, s2) W)
  dsimp only at *
  cases hm : mayB s1 s2 with
  | false =>
    have hB : rdB x (s1, s2) = false := by unfold rdB; rw [hm]; rfl
    have HM := Lib.hid hm
    clear h hm
    obtain ⟨r0, r1, r2⟩ := st_of HR.out.b0
    have c0 := HR.out.bs.c0; have c1 := HR.out.bs.c1
    go_enter Try.func20, Try.ntmps20
    go_wp2_with (go_at_call 25; (with_reducible refine (HMY.out _).mono ?_); rintro e w1 ⟨rfl, hb⟩; dsimp only; rw [HM.out])
    go_ret2
    exact HE.out hB _ (HR.out.later hb).below
  | true =>
    have HM := Lib.hid hm
    have hmi := mayB_iff.1 hm
    by_cases h1 : s1 < (x.una : Int)
    · have hB : rdB x (s1, s2) = false := by unfold rdB; rw [hm]; simp; omega
      clear h hm hmi
      obtain ⟨r0, r1, r2⟩ := st_of HR.out.b0
      have c0 := HR.out.bs.c0; have c1 := HR.out.bs.c1
      go_enter Try.func20, Try.ntmps20
      go_wp2_with (go_at_call 25; (with_reducible refine (HMY.out _).mono ?_); rintro e w1 ⟨rfl, hb⟩; dsimp only; rw [HM.out]; have R := HR.out.later hb; clear r0 r1 r2 c0 c1; obtain ⟨r0, r1, r2⟩ := st_of R.b0; have c0 := R.bs.c0; have c1 := R.bs.c1)
      go_ret2
      exact HE.out hB _ R.below
    · by_cases h2 : (x.una : Int) + (n : Int) < s2
      · have hB : rdB x (s1, s2) = false := by unfold rdB; rw [hm]; simp; omega
        clear h hm hmi
        obtain ⟨r0, r1, r2⟩ := st_of HR.out.b0
        have c0 := HR.out.bs.c0; have c1 := HR.out.bs.c1
        go_enter Try.func20, Try.ntmps20
        go_wp2_with (go_at_call 25; (with_reducible refine (HMY.out _).mono ?_); rintro e w1 ⟨rfl, hb⟩; dsimp only; rw [HM.out]; have R := HR.out.later hb; clear r0 r1 r2 c0 c1; obtain ⟨r0, r1, r2⟩ := st_of R.b0; have c0 := R.bs.c0; have c1 := R.bs.c1)
        go_ret2
        exact HE.out hB _ R.below
      · have hB : rdB x (s1, s2) = true := rdB_iff.2 ⟨hmi.1, hmi.2.1, hmi.2.2, by dsimp only; omega, by dsimp only; omega⟩
        have HL : Hid (rdL x (s1, s2) = (x.l.take (s2 - (x.una : Int)).toNat).drop (s1 - (x.una : Int)).toNat ∧ rdE x (s1, s2) = 0) := Lib.hid (by unfold rdL rdE; rw [if_pos hB, if_pos hB]; exact ⟨rfl, rfl⟩)
        unfold RetD
        rw [HL.out.1, HL.out.2]
        have hw2 : IntKind.i64.wrap (s1 - (x.una : Int)) = s1 - (x.una : Int) := IntWalk.i64_in _ (by omega)
        have hw3 : IntKind.i64.wrap (s2 - (x.una : Int)) = s2 - (x.una : Int) := IntWalk.i64_in _ (by omega)
        obtain ⟨i0, hi, hz0, hz1, hz2⟩ := info_split info_u8
        have e1 : (((s1 - (x.una : Int)).toNat : Nat) : Int) = s1 - (x.una : Int) := by omega
        have e2 : (((s2 - (x.una : Int)).toNat : Nat) : Int) = s2 - (x.una : Int) := by omega
        have hjk : (s1 - (x.una : Int)).toNat ≤ (s2 - (x.una : Int)).toNat ∧ (s2 - (x.una : Int)).toNat ≤ n := by omega
        generalize (s1 - (x.una : Int)).toNat = j at *
        generalize (s2 - (x.una : Int)).toNat = k at *
        have hsl := run_slice_two Try.prog 23 5 i0 Try.underlying23 hi hz1 a n cap j k hjk.1 (by omega)
        rw [e1, e2] at hsl
        have HRO := Lib.hid (fun C (hC : RRow C a n cap x.l) => show RRow C (if cap = j then a else a.map (·.add j)) (k - j) (cap - j) ((x.l.take k).drop j) from by
          by_cases c : cap = j
          · rw [show k - j = 0 by omega, show cap - j = 0 by omega, List.drop_eq_nil_of_le (by rw [List.length_take]; omega)]
            exact SlR.sub0 _
          · rw [if_neg c]
            obtain ⟨g, off, _, rfl, _⟩ := hC.rest (by omega)
            have := hC.sub j k cap hjk.1 hjk.2 (by omega) (Nat.le_refl _) (by omega)
            simp only [Nat.mul_one, ints_take, ints_drop] at this
            simpa [addr_add] using this)
        have HBK := Lib.hid (show ∀ b ∈ blk (if cap = j then a else a.map (·.add j)) (cap - j), b ∈ blk a cap from fun b hb => by
          by_cases c : cap = j
          · rw [show cap - j = 0 by omega] at hb
            simp [blk_zero] at hb
          · rw [if_neg c] at hb
            obtain ⟨g, off, _, rfl, _⟩ := h.rest (by omega)
            simp only [Option.map_some, addr_add] at hb
            rw [blk_some _ _ _ (by omega)] at hb ⊢
            exact hb)
        generalize (if cap = j then a else a.map (·.add j)) = a' at *
        have h1' : ¬ s1 < (x.una : Int) := h1
        clear h hm hmi hB e1 e2 hjk
        obtain ⟨r0, r1, r2⟩ := st_of HR.out.b0
        have c0 := HR.out.bs.c0; have c1 := HR.out.bs.c1
        go_enter Try.func20, Try.ntmps20
        go_wp2_with (go_at_call 25; (with_reducible refine (HMY.out _).mono ?_); rintro e w1 ⟨rfl, hb⟩; dsimp only; rw [HM.out]; have R := HR.out.later hb; clear r0 r1 r2 c0 c1; obtain ⟨r0, r1, r2⟩ := st_of R.b0; have c0 := R.bs.c0; have c1 := R.bs.c1)
        go_ret2
        exact ⟨_, _, _, rfl, HRO.out _ R.row, R.below, HBK.out⟩
/-- rows that hold the same -/
theorem same_b {w : World} {a b : Option Addr} {n m c1 c2 : Nat} {l : List Int} (h1 : RRow w a n c1 l) (h2 : RRow w b m c2 l) : Q 14 #[.slice a n c1, .slice b m c2] (.bool true) w := by
  refine Q.mk fun q => ?_
  have e1 := rrow_len h1
  have e2 := rrow_len h2
  obtain rfl : n = m := by omega
  exact oc.same_true a b n c1 c2 l (w.drewN q) (h1.sla.drewN q) (h2.sla.drewN q)
end Go.Proofs.Ytjkjbhapkmamkaa.bf
