/-
  Package option: Parse.
-/
import Derived.Test.YtdfenlagokndkaaOptS
import Derived.WalkMore
namespace Go.Proofs.Ytdfenlagokndkaa.op
open Go.RowKit aid mem oc
set_option linter.unusedVariables false

theorem set_any {w : World} {B : Nat} {o : Opt} {a : Option Addr} {n cap : Nat} (h : OpA w B o a n cap) (k z : Int) (hk : 0 ≤ k ∧ k ≤ 255) (sa : Option Addr) (m sc : Nat) (s : List Int) (hs : SlA .u8 w sa m sc s) (hb : Bd s) (hz : z - 2 = m) (hz2 : z ≤ 255) (hf : fits k z = true) :
    Calls Try.prog 108 #[.pointer (some ⟨B, 0, none⟩), .int .u8 k, .slice sa m sc] w (SetPost B (seto o k s) a n w) := by
  unfold fits at hf
  by_cases h2 : k = 2
  · subst h2
    rw [if_pos rfl] at hf
    have := of_decide_eq_true hf
    exact set_2 h sa m sc s hs hb (by omega)
  rw [if_neg h2] at hf
  by_cases h3 : k = 3
  · subst h3
    rw [if_pos rfl] at hf
    have := of_decide_eq_true hf
    exact set_3 h sa m sc s hs hb (by omega)
  rw [if_neg h3] at hf
  by_cases h4 : k = 4
  · subst h4
    rw [if_pos rfl] at hf
    have := of_decide_eq_true hf
    exact set_4 h sa m sc s hs (by omega)
  rw [if_neg h4] at hf
  by_cases h5 : k = 5
  · subst h5
    rw [if_pos rfl] at hf
    have := of_decide_eq_true hf
    exact set_5 h sa m sc s hs hb (m / 8) (by omega) (by omega)
  rw [if_neg h5] at hf
  by_cases h8 : k = 8
  · subst h8
    rw [if_pos rfl] at hf
    have := of_decide_eq_true hf
    exact set_8 h sa m sc s hs hb (by omega)
  exact set_0 h k hk h2 h3 h4 h5 h8 sa m sc s hs (by omega)

/-- what is read -/
def ParsePost (r : Opt × Int) (w : World) (e : Ending) (w' : World) : Prop :=
  ∃ a n cap, e = .returned (.tuple #[.agg (optCells r.1 a n cap), .int .i64 r.2]) ∧ BlA w' a n cap r.1.bl ∧ Below w.heap.size w w'

/-- the same, and the blocks are new ones -/
def ParseFresh (r : Opt × Int) (w : World) (e : Ending) (w' : World) : Prop :=
  ∃ a n cap, e = .returned (.tuple #[.agg (optCells r.1 a n cap), .int .i64 r.2]) ∧ BlA w' a n cap r.1.bl ∧ Below w.heap.size w w' ∧ ∀ x, a = some x → 0 < n → w.heap.size ≤ x.block

theorem bl_none (w : World) : BlA w none 0 0 [] := ⟨rfl, Nat.le_refl _, by simp [maxLen], fun _ => rfl, fun h => by omega⟩

theorem prs_e1 (f : Nat) (k : Int) (o : Opt) (h0 : k ≠ 0) (h1 : k ≠ 1) : prs (f + 1) [k] o = (Opt.zero, 5) := by simp only [prs, if_neg h0, if_neg h1]
theorem prs_e2 (f : Nat) (k z : Int) (q : List Int) (o : Opt) (h0 : k ≠ 0) (h1 : k ≠ 1) (h2 : z < 2) : prs (f + 1) (k :: z :: q) o = (Opt.zero, 6) := by simp only [prs, if_neg h0, if_neg h1, if_pos h2]
theorem prs_e3 (f : Nat) (k z : Int) (q : List Int) (o : Opt) (h0 : k ≠ 0) (h1 : k ≠ 1) (h2 : ¬ z < 2) (h3 : (q.length : Int) < z - 2) : prs (f + 1) (k :: z :: q) o = (Opt.zero, 5) := by simp only [prs, if_neg h0, if_neg h1, if_neg h2, if_pos h3]
theorem prs_e4 (f : Nat) (k z : Int) (q : List Int) (o : Opt) (h0 : k ≠ 0) (h1 : k ≠ 1) (h2 : ¬ z < 2) (h3 : ¬ (q.length : Int) < z - 2) (h4 : fits k z = false) : prs (f + 1) (k :: z :: q) o = (Opt.zero, 6) := by
  simp only [prs, if_neg h0, if_neg h1, if_neg h2, if_neg h3, h4]
  rfl
theorem prs_go (f : Nat) (k z : Int) (m : Nat) (q : List Int) (o : Opt) (h0 : k ≠ 0) (h1 : k ≠ 1) (h2 : ¬ z < 2) (h3 : ¬ (q.length : Int) < z - 2) (h4 : fits k z = true) (hm : z - 2 = m) : prs (f + 1) (k :: z :: q) o = prs f (q.drop m) (seto o k (q.take m)) := by
  simp only [prs, if_neg h0, if_neg h1, if_neg h2, if_neg h3, h4, if_true]
  rw [hm, Int.toNat_natCast]

theorem opa_new (w : World) : OpA (w.alloc (.cells #[.int .i64 0, .bool false, .bool false, .int .u32 0, .int .u32 0, .bool false, .int .i64 0, .slice none 0 0] 25)) w.heap.size .zero none 0 0 :=
  ⟨opt_new w .zero none 0 0 _, fun i _ => World.frozen?_alloc_at _ _ _ _ rfl, bl_none _, fun x hx => by cases hx⟩

set_option maxRecDepth 100000 in
set_option maxHeartbeats 12800000 in
theorem parse_fresh (sa : Option Addr) (m sc : Nat) (l : List Int) (w : World) (hs : SlA .u8 w sa m sc l) (hb : Bd l) :
    Calls Try.prog 92 #[.slice sa m sc] w (ParseFresh (if 40 < l.length then (Opt.zero, 9) else prs 41 l Opt.zero) w) := by
  have hll := hs.len
  have hle := hs.le
  have hmost := hs.most
  unfold maxLen at hmost
  by_cases h40 : 40 < m
  · have HE : Hid ((if 40 < l.length then (Opt.zero, (9 : Int)) else prs 41 l Opt.zero) = (Opt.zero, 9)) := Lib.hid (by rw [if_pos (by omega)])
    have HL := Lib.hid hll
    rw [HE.out]
    clear hll
    go_enter Try.func92, Try.ntmps92
    go_wp2
    go_step3
    go_wp2
    rw [Exit.noGoto_ret]
    exact bodyPost_ret (v := .tuple #[.agg #[.int .i64 0, .bool false, .bool false, .int .u32 0, .int .u32 0, .bool false, .int .i64 0, .slice none 0 0], .int .i64 9]) (by simp [results, Try.results92, go_sem]) rfl ⟨none, 0, 0, rfl, bl_none _, (Below.refl _ _).alloc (Nat.le_refl _) _, fun x hx => by cases hx⟩
  · have HE : Hid ((if 40 < l.length then (Opt.zero, (9 : Int)) else prs 41 l Opt.zero) = prs 41 l Opt.zero) := Lib.hid (by rw [if_neg (by omega)])
    have hl41 : l.length < 41 := by omega
    have HL := Lib.hid hll
    have HL41 := Lib.hid hl41
    have HB := Lib.hid hb
    rw [HE.out]
    obtain ⟨res, hres⟩ : ∃ res, prs 41 l Opt.zero = res := ⟨_, rfl⟩
    have HRES := Lib.hid hres
    rw [hres]
    clear hll hl41 hb hres HE
    go_enter Try.func92, Try.ntmps92
    go_wp2
    go_step3
    go_wp2_with fail
    obtain ⟨w1, hw1⟩ : ∃ w1, w.alloc (.cells #[.int .i64 0, .bool false, .bool false, .int .u32 0, .int .u32 0, .bool false, .int .i64 0, .slice none 0 0] 25) = w1 := ⟨_, rfl⟩
    have hR1 : OpA w1 w.heap.size .zero none 0 0 := by rw [← hw1]; exact opa_new w
    have hs1 : w1.heap.size = w.heap.size + 1 := by rw [← hw1]; simp
    have hb1 : Below w.heap.size w w1 := by rw [← hw1]; exact (Below.refl _ _).alloc (Nat.le_refl _) _
    rw [hw1]
    clear hw1
    have hB2 := opa_new w1
    have hR2 := hR1.keep2 ((Kept.refl [] w1).alloc (.cells #[.int .i64 0, .bool false, .bool false, .int .u32 0, .int .u32 0, .bool false, .int .i64 0, .slice none 0 0] 25)) (by simp) (by simp)
    have hb2 : Below w.heap.size w (w1.alloc (.cells #[.int .i64 0, .bool false, .bool false, .int .u32 0, .int .u32 0, .bool false, .int .i64 0, .slice none 0 0] 25)) := hb1.alloc hb1.size _
    have hs2 : (w1.alloc (.cells #[.int .i64 0, .bool false, .bool false, .int .u32 0, .int .u32 0, .bool false, .int .i64 0, .slice none 0 0] 25)).heap.size = w.heap.size + 2 := by simp; omega
    rw [hs1] at hB2
    obtain ⟨w2, hw2⟩ : ∃ w2, w1.alloc (.cells #[.int .i64 0, .bool false, .bool false, .int .u32 0, .int .u32 0, .bool false, .int .i64 0, .slice none 0 0] 25) = w2 := ⟨_, rfl⟩
    rw [hw2] at hB2 hR2 hb2 hs2 ⊢
    clear hw2 hR1 hs1 hb1
    obtain ⟨R, hR⟩ : ∃ R, w.heap.size = R := ⟨_, rfl⟩
    obtain ⟨B, hB⟩ : ∃ B, w.heap.size + 1 = B := ⟨_, rfl⟩
    rw [hB] at hB2 ⊢
    refine (new_lt sa m sc l w2 (hs.keep (Kept.of_below hb2 (Nat.le_refl _) []) (by simp)) (by omega)).mono ?_
    rintro e w3 ⟨p, S, rfl, hr, hp, hS, hpl, hb3⟩
    have hB3 := hB2.later hb3
    have hR3 := hR2.later hb3
    have hb03 := hb2.trans (hb3.mono (by omega))
    have hRB : R ≠ B := by omega
    have hBp : B ≠ p := by omega
    have hRp : R ≠ p := by omega
    have hSB : ∀ x ∈ S, x ≠ B := fun x hx => by have := (hS x hx).1; omega
    have HS := Lib.hid hSB
    have hp0 : w.heap.size ≤ p := by omega
    have hB0 : w.heap.size ≤ B := by omega
    have hR0 : w.heap.size ≤ R := by omega
    rw [hR] at hR3 ⊢
    clear hB2 hR2 hb2 hs2 hb3 hR hB hS hSB hs hp
    go_wp2
    go_step3
    go_wp2
    go_loopw [16] (fun _ wr => ∃ (f : Nat) (rest : List Int) (o : Opt) (a : Option Addr) (n cap : Nat), Hid (prs f rest o = res) ∧ Hid (rest.length < f ∧ rest.length ≤ 40) ∧ Hid (Bd rest) ∧ Rd wr p S rest ∧ OpA wr B o a n cap ∧ (∀ x, a = some x → 0 < n → x.block ≠ p ∧ x.block ≠ R ∧ w.heap.size ≤ x.block) ∧ OpA wr R .zero none 0 0 ∧ Below w.heap.size w wr) (fun _ wr => rdlen wr p)
    case atStart => exact ⟨41, l, .zero, none, 0, 0, HRES, Lib.hid ⟨HL41.out, by have := HL41.out; omega⟩, HB, hr, hB3, fun x hx => (by cases hx), hR3, hb03⟩
    case round =>
      obtain ⟨f, rest, o, a, n, cap, HP, HLE, HBD, hr', ho, hap, hR', hbel⟩ := hrel
      clear hr hB3 hR3 hb03 HB HL41 HRES
      have hrd := rdlen_of hr'
      have HRD := Lib.hid hrd
      have HAP := Lib.hid hap
      clear hrd hap
      cases rest with
      | nil =>
        go_wp2_with fail
        refine (left_any p S [] wr hr').mono ?_
        rintro e w' ⟨rfl, rfl⟩
        obtain ⟨c0, c1, c2, c3, c4, c5, c6, c7⟩ := ho.box
        obtain ⟨d0, d1, d2, d3, d4, d5, d6, d7⟩ := hR'.box
        have f0 := hR'.fz 0 (by omega)
        have f1 := hR'.fz 1 (by omega)
        have f2 := hR'.fz 2 (by omega)
        have f3 := hR'.fz 3 (by omega)
        have f4 := hR'.fz 4 (by omega)
        have f5 := hR'.fz 5 (by omega)
        have f6 := hR'.fz 6 (by omega)
        have f7 := hR'.fz 7 (by omega)
        go_wp2
        have hat : OptAt _ R o a n cap := (((((((hR'.box.set0 o.mss).set1 o.permit).set2 o.ts).set3 o.val).set4 o.ecr).set5 o.hs).set6 o.scale).set7 a n cap o.bl
        have hkR : Kept [R] wr _ := ((((((((Kept.refl [R] wr).setCell (p := ⟨R, 0, none⟩) (.inl (by simp)) (.int .i64 o.mss)).setCell (p := ⟨R, 1, none⟩) (.inl (by simp)) (.bool o.permit)).setCell (p := ⟨R, 2, none⟩) (.inl (by simp)) (.bool o.ts)).setCell (p := ⟨R, 3, none⟩) (.inl (by simp)) (.int .u32 o.val)).setCell (p := ⟨R, 4, none⟩) (.inl (by simp)) (.int .u32 o.ecr)).setCell (p := ⟨R, 5, none⟩) (.inl (by simp)) (.bool o.hs)).setCell (p := ⟨R, 6, none⟩) (.inl (by simp)) (.int .i64 o.scale)).setCell (p := ⟨R, 7, none⟩) (.inl (by simp)) (.slice a n cap)
        have hblF := ho.bl.keep hkR (fun x hx h0 e => (HAP.out x hx h0).2.1 (by simpa using e))
        have hbF := hbel.trans (hkR.below (B := w.heap.size) (fun k hk => by rw [List.mem_singleton] at hk; omega) hbel.size)
        have hresE : res = (o, 0) := (HP.out.symm.trans (prs_nil f o))
        rw [hresE]
        rw [Exit.noGoto_ret]
        obtain ⟨e0, e1, e2, e3, e4, e5, e6, e7⟩ := hat
        exact bodyPost_ret (v := .tuple #[.agg #[.int .i64 o.mss, .bool o.permit, .bool o.ts, .int .u32 o.val, .int .u32 o.ecr, .bool o.hs, .int .i64 o.scale, .slice a n cap], .int .i64 0]) (by simp [results, Try.results92, go_sem, e0, e1, e2, e3, e4, e5, e6, e7]) rfl ⟨a, n, cap, rfl, hblF, hbF, fun x hx h0 => (HAP.out x hx h0).2.2⟩
      | cons k r =>
        have hk := HBD.out k (by simp)
        have hbr : Bd r := fun x hx => HBD.out x (by simp [hx])
        have HBR := Lib.hid hbr
        obtain ⟨f', hf'⟩ : ∃ f', f = f' + 1 := ⟨f - 1, by have := HLE.out.1; simp at this; omega⟩
        have HF := Lib.hid hf'
        have hle' : r.length < f' ∧ r.length ≤ 40 := by have := HLE.out; simp at this; omega
        have HLE' := Lib.hid hle'
        obtain ⟨L, hL⟩ : ∃ L, (k :: r).length = L := ⟨_, rfl⟩
        have hlx : ((k :: r).length : Int) = (L : Int) := by rw [hL]
        have hL0 : (0 : Int) < (L : Int) := by rw [← hlx]; simp
        have HLX := Lib.hid hlx
        clear hbr hf' hle' hL hlx
        go_wp2_with fail
        refine (left_any p S _ wr hr').mono ?_
        rintro e w' ⟨rfl, rfl⟩
        rw [HLX.out]
        go_wp2_with fail
        refine (rone_cons p S k r wr hr' HBD.out).mono ?_
        rintro e w1 ⟨rfl, hr1, hk1⟩
        have ho1 := ho.keep2 hk1 (by simpa using hBp) (fun x hx h0 e => (HAP.out x hx h0).1 (by simpa using e))
        have hR1 := hR'.keep2 hk1 (by simpa using hRp) (fun x hx => by cases hx)
        have hbel1 := hbel.trans (hk1.below (B := w.heap.size) (fun k hk => by rw [List.mem_singleton] at hk; omega) hbel.size)
        have hrd1 := rdlen_of hr1
        have HRD1 := Lib.hid hrd1
        clear ho hR' hbel hr' hk1 hrd1
        by_cases k0 : k = 0
        · have g0 : (k == 0) = true := by simpa using k0
          have hres0 : res = (o, 0) := by rw [← HP.out, HF.out, k0]; exact prs_end f' r o
          have HRS := Lib.hid hres0
          clear k0 hres0
          obtain ⟨c0, c1, c2, c3, c4, c5, c6, c7⟩ := ho1.box
          obtain ⟨d0, d1, d2, d3, d4, d5, d6, d7⟩ := hR1.box
          have f0 := hR1.fz 0 (by omega)
          have f1 := hR1.fz 1 (by omega)
          have f2 := hR1.fz 2 (by omega)
          have f3 := hR1.fz 3 (by omega)
          have f4 := hR1.fz 4 (by omega)
          have f5 := hR1.fz 5 (by omega)
          have f6 := hR1.fz 6 (by omega)
          have f7 := hR1.fz 7 (by omega)
          go_wp2
          have hat : OptAt _ R o a n cap := (((((((hR1.box.set0 o.mss).set1 o.permit).set2 o.ts).set3 o.val).set4 o.ecr).set5 o.hs).set6 o.scale).set7 a n cap o.bl
          have hkR : Kept [R] w1 _ := ((((((((Kept.refl [R] w1).setCell (p := ⟨R, 0, none⟩) (.inl (by simp)) (.int .i64 o.mss)).setCell (p := ⟨R, 1, none⟩) (.inl (by simp)) (.bool o.permit)).setCell (p := ⟨R, 2, none⟩) (.inl (by simp)) (.bool o.ts)).setCell (p := ⟨R, 3, none⟩) (.inl (by simp)) (.int .u32 o.val)).setCell (p := ⟨R, 4, none⟩) (.inl (by simp)) (.int .u32 o.ecr)).setCell (p := ⟨R, 5, none⟩) (.inl (by simp)) (.bool o.hs)).setCell (p := ⟨R, 6, none⟩) (.inl (by simp)) (.int .i64 o.scale)).setCell (p := ⟨R, 7, none⟩) (.inl (by simp)) (.slice a n cap)
          have hblF := ho1.bl.keep hkR (fun x hx h0 e => (HAP.out x hx h0).2.1 (by simpa using e))
          have hbF := hbel1.trans (hkR.below (B := w.heap.size) (fun k hk => by rw [List.mem_singleton] at hk; omega) hbel1.size)
          have hresE : res = (o, 0) := HRS.out
          rw [hresE]
          rw [Exit.noGoto_ret]
          obtain ⟨e0, e1, e2, e3, e4, e5, e6, e7⟩ := hat
          exact bodyPost_ret (v := .tuple #[.agg #[.int .i64 o.mss, .bool o.permit, .bool o.ts, .int .u32 o.val, .int .u32 o.ecr, .bool o.hs, .int .i64 o.scale, .slice a n cap], .int .i64 0]) (by simp [results, Try.results92, go_sem, e0, e1, e2, e3, e4, e5, e6, e7]) rfl ⟨a, n, cap, rfl, hblF, hbF, fun x hx h0 => (HAP.out x hx h0).2.2⟩
        have g0 : (k == 0) = false := by simpa using k0
        by_cases k1 : k = 1
        · have g1 : (k == 1) = true := by simpa using k1
          have hres0 : prs f' r o = res := by rw [← HP.out, HF.out, k1]; exact (prs_nothing f' r o).symm
          have HRS := Lib.hid hres0
          clear k0 k1 hres0
          go_wp2
          go_roundw
          case rel => exact ⟨f', r, o, a, n, cap, HRS, HLE', HBR, hr1, ho1, HAP.out, hR1, hbel1⟩
          case measure => rw [HRD1.out, HRD.out]; simp
        have g1 : (k == 1) = false := by simpa using k1
        have HK0 := Lib.hid k0
        have HK1 := Lib.hid k1
        clear k0 k1
        cases r with
        | nil =>
          have hres0 : res = (Opt.zero, 5) := by rw [← HP.out, HF.out]; exact prs_e1 f' k o HK0.out HK1.out
          have HRS := Lib.hid hres0
          clear hres0
          go_wp2_with fail
          refine (take_e1 p S k w1 hr1).mono ?_
          rintro e w2 ⟨rfl, hk2⟩
          have hR2 := hR1.keep2 hk2 (by simpa using hRp) (fun x hx => by cases hx)
          have hbel2 := hbel1.trans (hk2.below (B := w.heap.size) (fun k hk => by rw [List.mem_singleton] at hk; omega) hbel1.size)
          obtain ⟨d0, d1, d2, d3, d4, d5, d6, d7⟩ := hR2.box
          have f0 := hR2.fz 0 (by omega)
          have f1 := hR2.fz 1 (by omega)
          have f2 := hR2.fz 2 (by omega)
          have f3 := hR2.fz 3 (by omega)
          have f4 := hR2.fz 4 (by omega)
          have f5 := hR2.fz 5 (by omega)
          have f6 := hR2.fz 6 (by omega)
          have f7 := hR2.fz 7 (by omega)
          go_wp2
          have hat : OptAt _ R Opt.zero none 0 0 := (((((((hR2.box.set0 Opt.zero.mss).set1 Opt.zero.permit).set2 Opt.zero.ts).set3 Opt.zero.val).set4 Opt.zero.ecr).set5 Opt.zero.hs).set6 Opt.zero.scale).set7 none 0 0 Opt.zero.bl
          have hkR : Kept [R] w2 _ := ((((((((Kept.refl [R] w2).setCell (p := ⟨R, 0, none⟩) (.inl (by simp)) (.int .i64 Opt.zero.mss)).setCell (p := ⟨R, 1, none⟩) (.inl (by simp)) (.bool Opt.zero.permit)).setCell (p := ⟨R, 2, none⟩) (.inl (by simp)) (.bool Opt.zero.ts)).setCell (p := ⟨R, 3, none⟩) (.inl (by simp)) (.int .u32 Opt.zero.val)).setCell (p := ⟨R, 4, none⟩) (.inl (by simp)) (.int .u32 Opt.zero.ecr)).setCell (p := ⟨R, 5, none⟩) (.inl (by simp)) (.bool Opt.zero.hs)).setCell (p := ⟨R, 6, none⟩) (.inl (by simp)) (.int .i64 Opt.zero.scale)).setCell (p := ⟨R, 7, none⟩) (.inl (by simp)) (.slice none 0 0)
          have hbF := hbel2.trans (hkR.below (B := w.heap.size) (fun k hk => by rw [List.mem_singleton] at hk; omega) hbel2.size)
          have hresE : res = (Opt.zero, 5) := HRS.out
          rw [hresE]
          rw [Exit.noGoto_ret]
          obtain ⟨e0, e1, e2, e3, e4, e5, e6, e7⟩ := hat
          simp only [Opt.zero] at e0 e1 e2 e3 e4 e5 e6 e7
          exact bodyPost_ret (v := .tuple #[.agg #[.int .i64 0, .bool false, .bool false, .int .u32 0, .int .u32 0, .bool false, .int .i64 0, .slice none 0 0], .int .i64 5]) (by simp [results, Try.results92, go_sem, e0, e1, e2, e3, e4, e5, e6, e7]) rfl ⟨none, 0, 0, rfl, bl_none _, hbF, fun x hx => by cases hx⟩
        | cons z q =>
          have hz := HBR.out z (by simp)
          by_cases z2 : z < 2
          · have hres0 : res = (Opt.zero, 6) := by rw [← HP.out, HF.out]; exact prs_e2 f' k z q o HK0.out HK1.out z2
            have HRS := Lib.hid hres0
            clear hres0
            go_wp2_with fail
            refine (take_e2 p S k z q w1 hr1 HBR.out z2).mono ?_
            rintro e w2 ⟨rfl, hk2⟩
            have hR2 := hR1.keep2 hk2 (by simpa using hRp) (fun x hx => by cases hx)
            have hbel2 := hbel1.trans (hk2.below (B := w.heap.size) (fun k hk => by rw [List.mem_singleton] at hk; omega) hbel1.size)
            obtain ⟨d0, d1, d2, d3, d4, d5, d6, d7⟩ := hR2.box
            have f0 := hR2.fz 0 (by omega)
            have f1 := hR2.fz 1 (by omega)
            have f2 := hR2.fz 2 (by omega)
            have f3 := hR2.fz 3 (by omega)
            have f4 := hR2.fz 4 (by omega)
            have f5 := hR2.fz 5 (by omega)
            have f6 := hR2.fz 6 (by omega)
            have f7 := hR2.fz 7 (by omega)
            go_wp2
            have hat : OptAt _ R Opt.zero none 0 0 := (((((((hR2.box.set0 Opt.zero.mss).set1 Opt.zero.permit).set2 Opt.zero.ts).set3 Opt.zero.val).set4 Opt.zero.ecr).set5 Opt.zero.hs).set6 Opt.zero.scale).set7 none 0 0 Opt.zero.bl
            have hkR : Kept [R] w2 _ := ((((((((Kept.refl [R] w2).setCell (p := ⟨R, 0, none⟩) (.inl (by simp)) (.int .i64 Opt.zero.mss)).setCell (p := ⟨R, 1, none⟩) (.inl (by simp)) (.bool Opt.zero.permit)).setCell (p := ⟨R, 2, none⟩) (.inl (by simp)) (.bool Opt.zero.ts)).setCell (p := ⟨R, 3, none⟩) (.inl (by simp)) (.int .u32 Opt.zero.val)).setCell (p := ⟨R, 4, none⟩) (.inl (by simp)) (.int .u32 Opt.zero.ecr)).setCell (p := ⟨R, 5, none⟩) (.inl (by simp)) (.bool Opt.zero.hs)).setCell (p := ⟨R, 6, none⟩) (.inl (by simp)) (.int .i64 Opt.zero.scale)).setCell (p := ⟨R, 7, none⟩) (.inl (by simp)) (.slice none 0 0)
            have hbF := hbel2.trans (hkR.below (B := w.heap.size) (fun k hk => by rw [List.mem_singleton] at hk; omega) hbel2.size)
            have hresE : res = (Opt.zero, 6) := HRS.out
            rw [hresE]
            rw [Exit.noGoto_ret]
            obtain ⟨e0, e1, e2, e3, e4, e5, e6, e7⟩ := hat
            simp only [Opt.zero] at e0 e1 e2 e3 e4 e5 e6 e7
            exact bodyPost_ret (v := .tuple #[.agg #[.int .i64 0, .bool false, .bool false, .int .u32 0, .int .u32 0, .bool false, .int .i64 0, .slice none 0 0], .int .i64 6]) (by simp [results, Try.results92, go_sem, e0, e1, e2, e3, e4, e5, e6, e7]) rfl ⟨none, 0, 0, rfl, bl_none _, hbF, fun x hx => by cases hx⟩
          by_cases zl : (q.length : Int) < z - 2
          · have hres0 : res = (Opt.zero, 5) := by rw [← HP.out, HF.out]; exact prs_e3 f' k z q o HK0.out HK1.out z2 zl
            have HRS := Lib.hid hres0
            clear hres0
            go_wp2_with fail
            refine (take_e3 p S k z q w1 hr1 HBR.out (by omega) zl).mono ?_
            rintro e w2 ⟨rfl, hk2⟩
            have hR2 := hR1.keep2 hk2 (by simpa using hRp) (fun x hx => by cases hx)
            have hbel2 := hbel1.trans (hk2.below (B := w.heap.size) (fun k hk => by rw [List.mem_singleton] at hk; omega) hbel1.size)
            obtain ⟨d0, d1, d2, d3, d4, d5, d6, d7⟩ := hR2.box
            have f0 := hR2.fz 0 (by omega)
            have f1 := hR2.fz 1 (by omega)
            have f2 := hR2.fz 2 (by omega)
            have f3 := hR2.fz 3 (by omega)
            have f4 := hR2.fz 4 (by omega)
            have f5 := hR2.fz 5 (by omega)
            have f6 := hR2.fz 6 (by omega)
            have f7 := hR2.fz 7 (by omega)
            go_wp2
            have hat : OptAt _ R Opt.zero none 0 0 := (((((((hR2.box.set0 Opt.zero.mss).set1 Opt.zero.permit).set2 Opt.zero.ts).set3 Opt.zero.val).set4 Opt.zero.ecr).set5 Opt.zero.hs).set6 Opt.zero.scale).set7 none 0 0 Opt.zero.bl
            have hkR : Kept [R] w2 _ := ((((((((Kept.refl [R] w2).setCell (p := ⟨R, 0, none⟩) (.inl (by simp)) (.int .i64 Opt.zero.mss)).setCell (p := ⟨R, 1, none⟩) (.inl (by simp)) (.bool Opt.zero.permit)).setCell (p := ⟨R, 2, none⟩) (.inl (by simp)) (.bool Opt.zero.ts)).setCell (p := ⟨R, 3, none⟩) (.inl (by simp)) (.int .u32 Opt.zero.val)).setCell (p := ⟨R, 4, none⟩) (.inl (by simp)) (.int .u32 Opt.zero.ecr)).setCell (p := ⟨R, 5, none⟩) (.inl (by simp)) (.bool Opt.zero.hs)).setCell (p := ⟨R, 6, none⟩) (.inl (by simp)) (.int .i64 Opt.zero.scale)).setCell (p := ⟨R, 7, none⟩) (.inl (by simp)) (.slice none 0 0)
            have hbF := hbel2.trans (hkR.below (B := w.heap.size) (fun k hk => by rw [List.mem_singleton] at hk; omega) hbel2.size)
            have hresE : res = (Opt.zero, 5) := HRS.out
            rw [hresE]
            rw [Exit.noGoto_ret]
            obtain ⟨e0, e1, e2, e3, e4, e5, e6, e7⟩ := hat
            simp only [Opt.zero] at e0 e1 e2 e3 e4 e5 e6 e7
            exact bodyPost_ret (v := .tuple #[.agg #[.int .i64 0, .bool false, .bool false, .int .u32 0, .int .u32 0, .bool false, .int .i64 0, .slice none 0 0], .int .i64 5]) (by simp [results, Try.results92, go_sem, e0, e1, e2, e3, e4, e5, e6, e7]) rfl ⟨none, 0, 0, rfl, bl_none _, hbF, fun x hx => by cases hx⟩
          obtain ⟨m', hm'⟩ := Int.eq_ofNat_of_zero_le (show 0 ≤ z - 2 by omega)
          have HM := Lib.hid hm'
          have hml : m' ≤ q.length := by omega
          cases hfit : fits k z with
          | false =>
            have HFIT := Lib.hid hfit
            have hres0 : res = (Opt.zero, 6) := by rw [← HP.out, HF.out]; exact prs_e4 f' k z q o HK0.out HK1.out z2 zl hfit
            have HRS := Lib.hid hres0
            clear hres0 hm'
            go_wp2_with fail
            refine (take_e4 p S k z q w1 hk hr1 HBR.out (by omega) (by omega) HFIT.out).mono ?_
            rintro e w2 ⟨rfl, hk2⟩
            have hR2 := hR1.keep2 hk2 (by simpa using hRp) (fun x hx => by cases hx)
            have hbel2 := hbel1.trans (hk2.below (B := w.heap.size) (fun k hk => by rw [List.mem_singleton] at hk; omega) hbel1.size)
            obtain ⟨d0, d1, d2, d3, d4, d5, d6, d7⟩ := hR2.box
            have f0 := hR2.fz 0 (by omega)
            have f1 := hR2.fz 1 (by omega)
            have f2 := hR2.fz 2 (by omega)
            have f3 := hR2.fz 3 (by omega)
            have f4 := hR2.fz 4 (by omega)
            have f5 := hR2.fz 5 (by omega)
            have f6 := hR2.fz 6 (by omega)
            have f7 := hR2.fz 7 (by omega)
            go_wp2
            have hat : OptAt _ R Opt.zero none 0 0 := (((((((hR2.box.set0 Opt.zero.mss).set1 Opt.zero.permit).set2 Opt.zero.ts).set3 Opt.zero.val).set4 Opt.zero.ecr).set5 Opt.zero.hs).set6 Opt.zero.scale).set7 none 0 0 Opt.zero.bl
            have hkR : Kept [R] w2 _ := ((((((((Kept.refl [R] w2).setCell (p := ⟨R, 0, none⟩) (.inl (by simp)) (.int .i64 Opt.zero.mss)).setCell (p := ⟨R, 1, none⟩) (.inl (by simp)) (.bool Opt.zero.permit)).setCell (p := ⟨R, 2, none⟩) (.inl (by simp)) (.bool Opt.zero.ts)).setCell (p := ⟨R, 3, none⟩) (.inl (by simp)) (.int .u32 Opt.zero.val)).setCell (p := ⟨R, 4, none⟩) (.inl (by simp)) (.int .u32 Opt.zero.ecr)).setCell (p := ⟨R, 5, none⟩) (.inl (by simp)) (.bool Opt.zero.hs)).setCell (p := ⟨R, 6, none⟩) (.inl (by simp)) (.int .i64 Opt.zero.scale)).setCell (p := ⟨R, 7, none⟩) (.inl (by simp)) (.slice none 0 0)
            have hbF := hbel2.trans (hkR.below (B := w.heap.size) (fun k hk => by rw [List.mem_singleton] at hk; omega) hbel2.size)
            have hresE : res = (Opt.zero, 6) := HRS.out
            rw [hresE]
            rw [Exit.noGoto_ret]
            obtain ⟨e0, e1, e2, e3, e4, e5, e6, e7⟩ := hat
            simp only [Opt.zero] at e0 e1 e2 e3 e4 e5 e6 e7
            exact bodyPost_ret (v := .tuple #[.agg #[.int .i64 0, .bool false, .bool false, .int .u32 0, .int .u32 0, .bool false, .int .i64 0, .slice none 0 0], .int .i64 6]) (by simp [results, Try.results92, go_sem, e0, e1, e2, e3, e4, e5, e6, e7]) rfl ⟨none, 0, 0, rfl, bl_none _, hbF, fun x hx => by cases hx⟩
          | true =>
            have hres0 : prs f' (q.drop m') (seto o k (q.take m')) = res := by rw [← HP.out, HF.out]; exact (prs_go f' k z m' q o HK0.out HK1.out z2 zl hfit hm').symm
            have HRS := Lib.hid hres0
            have HFIT := Lib.hid hfit
            have HZL := Lib.hid zl
            have hbt : Bd (q.take m') := fun x hx => HBR.out x (by simp [List.mem_of_mem_take hx])
            have hbd : Bd (q.drop m') := fun x hx => HBR.out x (by simp [List.mem_of_mem_drop hx])
            have HBT := Lib.hid hbt
            have HBD' := Lib.hid hbd
            clear hres0 hfit zl hbt hbd hm'
            go_wp2_with fail
            refine (take_ok p S k z m' q w1 hk hr1 HBR.out HM.out hml HFIT.out).mono ?_
            rintro e w2 ⟨a2, c2, rfl, hown, hr2, hk2⟩
            have ho2 := ho1.keep2 hk2 (by simpa using hBp) (fun x hx h0 e => (HAP.out x hx h0).1 (by simpa using e))
            have hR2 := hR1.keep2 hk2 (by simpa using hRp) (fun x hx => by cases hx)
            have hbel2 := hbel1.trans (hk2.below (B := w.heap.size) (fun k hk => by rw [List.mem_singleton] at hk; omega) hbel1.size)
            obtain ⟨a3, c3, hv, hsl, _⟩ := sl_of_own hown
            injection hv with hv1 _ hv2
            subst hv1 hv2
            have hp2 : p < w2.heap.size := by obtain ⟨_, _, hc, _⟩ := hr2.ex; exact World.block_lt_of_cell? w2 _ hc
            have hR2lt : R < w2.heap.size := hR2.box.lt
            clear ho1 hR1 hbel1 hr1 hk2 hown
            go_wp2_with fail
            refine (set_any ho2 k z hk a2 m' c2 (q.take m') hsl HBT.out HM.out (by omega) HFIT.out).mono ?_
            rintro e w3 ⟨rfl, a', n', cap', ho3, hk3, hor⟩
            have hr3 := hr2.keep hk3 (by simpa using fun h => hBp h.symm) (fun x hx e => HS.out x hx (by simpa using e))
            have hR3 := hR2.keep2 hk3 (by simpa using hRB) (fun x hx => by cases hx)
            have hbel3 := hbel2.trans (hk3.below (B := w.heap.size) (fun k hk => by rw [List.mem_singleton] at hk; omega) hbel2.size)
            have hap3 : ∀ x, a' = some x → 0 < n' → x.block ≠ p ∧ x.block ≠ R ∧ w.heap.size ≤ x.block := by
              intro x hx h0
              rcases hor with ⟨e1, e2⟩ | h
              · subst e1 e2; exact HAP.out x hx h0
              · have := h x hx; have := hbel2.size; omega
            have hrd3 := rdlen_of hr3
            have HRD3 := Lib.hid hrd3
            have HAP3 := Lib.hid hap3
            clear ho2 hR2 hbel2 hr2 hk3 hor hap3 hrd3
            go_wp2
            go_roundw
            case rel => exact ⟨f', q.drop m', seto o k (q.take m'), a', n', cap', HRS, Lib.hid (by have := HLE'.out; simp only [List.length_cons] at this; rw [List.length_drop]; omega), HBD', hr3, ho3, HAP3.out, hR3, hbel3⟩
            case measure => rw [HRD3.out, HRD.out]; simp only [List.length_cons, List.length_drop]; omega
theorem parse_any (sa : Option Addr) (m sc : Nat) (l : List Int) (w : World) (hs : SlA .u8 w sa m sc l) (hb : Bd l) :
    Calls Try.prog 92 #[.slice sa m sc] w (ParsePost (if 40 < l.length then (Opt.zero, 9) else prs 41 l Opt.zero) w) :=
  (parse_fresh sa m sc l w hs hb).mono fun e w' ⟨a, n, cap, h1, h2, h3, _⟩ => ⟨a, n, cap, h1, h2, h3⟩
end Go.Proofs.Ytdfenlagokndkaa.op
