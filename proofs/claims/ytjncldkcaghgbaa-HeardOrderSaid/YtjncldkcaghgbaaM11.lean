/-
  Several texts in one: HrdOw HrdOx
-/
import Derived.Test.YtjncldkcaghgbaaM10
/-!   Heard: two of one's own; a text's pieces.
-/
namespace Go.Proofs.Ytjncldkcaghgbaa.hd
open Go.RowKit Go.Shelf aid mem rng sp rn
attribute [local go_sem ↓] Go.wp_at_zero Go.wp_at_succ
set_option linter.unusedVariables false
set_option linter.unusedSimpArgs false

/-- two of one's own, apart -/
structure K2 (w : World) (A : Nat) (m : Hb) (x : Hd) (B : Nat) (n : Hb) (y : Hd) (W : World) : Prop where
  a : KS w A m x W
  b : KS w B n y W
  dis : ∀ c ∈ A :: parts m, c ∉ B :: parts n
theorem K2.later {w W W' : World} {A B : Nat} {m n : Hb} {x y : Hd} (h : K2 w A m x B n y W) (hb : Below W.heap.size W W') : K2 w A m x B n y W' := ⟨h.a.later hb, h.b.later hb, h.dis⟩
theorem K2.symm {w W : World} {A B : Nat} {m n : Hb} {x y : Hd} (h : K2 w A m x B n y W) : K2 w B n y A m x W := ⟨h.b, h.a, fun c hc e => h.dis c e hc⟩
def Far4 (W w' : World) : Prop := ∀ (b : Nat) (cs : Array Value) (T : TypeId), W.heap[b]? = some (.cells cs T (0, 0)) → far4 T = true → w'.heap[b]? = some (.cells cs T (0, 0))
theorem K2.took {w W W' : World} {A B : Nat} {m n : Hb} {x x' y : Hd} {v : Value} {e : Ending} (h : K2 w A m x B n y W) (r : RetK v A m x' W e W') : e = .returned v ∧ ∃ m', K2 w A m' x' B n y W' ∧ Far4 W W' := by
  obtain ⟨r1, m', r2, r3, r4⟩ := r
  have hz := h.a.below.size
  have h0 : ∀ c ∈ A :: parts m', c ∈ A :: parts m ∨ W.heap.size ≤ c := fun c hc => by
    simp only [List.mem_cons] at hc
    rcases hc with rfl | hc
    · exact .inl (by simp)
    · rcases r4 c (by simpa using hc) with q | q
      · exact .inl (by simp only [List.mem_cons]; exact .inr (by simpa using q))
      · exact .inr q
  refine ⟨r1, m', ⟨⟨r2, h.a.below.trans (r3.below h.a.own hz), fun c hc => ?_⟩, ⟨h.b.h.keep r3 (fun c hc e => h.dis c e hc), h.b.below.trans (r3.below h.a.own hz), h.b.own⟩, fun c hc e => ?_⟩, h.a.far r3⟩
  · rcases h0 c hc with q | q
    · exact h.a.own c q
    · omega
  · rcases h0 c hc with q | q
    · exact h.dis c q e
    · have := h.b.h.lt c e; omega
abbrev cuO (q : hc.OpV) : Obj := .cells #[.int .u16 q.pos, .int .u16 q.n] 51
/-- beside the two: two pieces in boxes -/
structure CB (w : World) (A : Nat) (m : Hb) (x : Hd) (B : Nat) (n : Hb) (y : Hd) (b1 b2 : Nat) (q1 q2 : hc.OpV) (W : World) : Prop where
  k : K2 w A m x B n y W
  x1 : W.heap[b1]? = some (cuO q1)
  x2 : W.heap[b2]? = some (cuO q2)
theorem CB.took {w W W' : World} {A B b1 b2 : Nat} {m n : Hb} {x x' y : Hd} {q1 q2 : hc.OpV} {v : Value} {e : Ending} (h : CB w A m x B n y b1 b2 q1 q2 W) (r : RetK v A m x' W e W') : e = .returned v ∧ ∃ m', CB w A m' x' B n y b1 b2 q1 q2 W' := by
  obtain ⟨r1, m', k, hf⟩ := h.k.took r
  exact ⟨r1, m', k, hf _ _ _ h.x1 (by decide), hf _ _ _ h.x2 (by decide)⟩
theorem CB.tookB {w W W' : World} {A B b1 b2 : Nat} {m n : Hb} {x y y' : Hd} {q1 q2 : hc.OpV} {v : Value} {e : Ending} (h : CB w A m x B n y b1 b2 q1 q2 W) (r : RetK v B n y' W e W') : e = .returned v ∧ ∃ n', CB w A m x B n' y' b1 b2 q1 q2 W' := by
  obtain ⟨r1, m', k, hf⟩ := h.k.symm.took r
  exact ⟨r1, m', k.symm, hf _ _ _ h.x1 (by decide), hf _ _ _ h.x2 (by decide)⟩
theorem two_cuts {w W : World} {A B : Nat} {m n : Hb} {x y : Hd} (h : K2 w A m x B n y W) (q1 q2 : hc.OpV) :
    CB w A m x B n y W.heap.size (W.heap.size + 1) q1 q2 ((W.alloc (cuO q1)).alloc (cuO q2)).drew ∧ CB w A m x B n y (W.heap.size + 1) W.heap.size q1 q2 ((W.alloc (cuO q2)).alloc (cuO q1)).drew := by
  have key : ∀ (u v : hc.OpV), Below W.heap.size W ((W.alloc (cuO u)).alloc (cuO v)).drew ∧ ((W.alloc (cuO u)).alloc (cuO v)).drew.heap[W.heap.size]? = some (cuO u) ∧ ((W.alloc (cuO u)).alloc (cuO v)).drew.heap[W.heap.size + 1]? = some (cuO v) := fun u v => by
    have b1 := bal (w := W) (cuO u)
    have x1 := heap_alloc_new W (cuO u)
    have hz : (W.alloc (cuO u)).heap.size = W.heap.size + 1 := by simp
    have b2 := (bal (w := W.alloc (cuO u)) (cuO v)).drew
    have y2 := heap_alloc_new (W.alloc (cuO u)) (cuO v)
    rw [hz] at y2
    exact ⟨b1.trans (b2.mono b1.size), (b2.block _ (lt_of_block x1)).trans x1, y2⟩
  obtain ⟨k1, k2, k3⟩ := key q1 q2
  obtain ⟨l1, l2, l3⟩ := key q2 q1
  exact ⟨⟨h.later k1, k2, k3⟩, ⟨h.later l1, l3, l2⟩⟩
theorem cu_c {W : World} {b : Nat} {q : hc.OpV} (h : W.heap[b]? = some (cuO q)) : W.cell? ⟨b, 0, none⟩ = some (.int .u16 q.pos) ∧ W.cell? ⟨b, 1, none⟩ = some (.int .u16 q.n) := ⟨cofr h 0 _ rfl, cofr h 1 _ rfl⟩
theorem piece_sl {w : World} {a : Option Addr} {n cap : Nat} {l : List Int} (h : SlA .u8 w a n cap l) (j k : Nat) (hj : j ≤ k) (hk : k ≤ n) : SlA .u8 w (if cap = j then a else a.map (·.add j)) (k - j) (cap - j) ((l.take k).drop j) := (h.take k hk).fromK j hj
/-- a piece of the text for one of the two -/
theorem take_a {w W : World} {A B b1 b2 : Nat} {m n : Hb} {x y : Hd} {q1 q2 q : hc.OpV} {first : Int} {t : List Int} {l : List hc.OpV} (h : CB w A m x B n y b1 b2 q1 q2 W) (hf : 0 ≤ first ∧ first ≤ 4294967295) (ht : t.length ≤ 2000) (o : PcO first t l x) (hl : l.length ≤ 60) (hc : cf t q < t.length) {a : Option Addr} {tn cap : Nat} (hp : SlA .u8 w a tn cap t) :
    Calls Try.prog 9 #[.pointer (some ⟨A, 0, none⟩), .int .u32 ((first + (cf t q : Int)) % 4294967296), .slice (if cap = cf t q then a else a.map (·.add (cf t q))) (ce t q - cf t q) (cap - cf t q)] W fun e w' => ∃ v m', e = .returned v ∧ CB w A m' (stp first t x q) B n y b1 b2 q1 q2 w' := by
  have hn := o.nxb
  have hle := o.len
  have hcf := cf_le t q
  have hpl := hp.len
  have hs := piece_sl hp (cf t q) (ce t q) hcf.1 (by omega)
  refine (take_any h.k.a.h (by omega) (by omega) ((first + (cf t q : Int)) % 4294967296) (by omega) (hs.later h.k.a.below) (fun z hz h0 e => ?_)).mono fun e w' r => ?_
  · have h1 := h.k.a.own _ e
    have := sla_old hs z hz h0
    omega
  · obtain ⟨r1, m', r2⟩ := h.took r
    rw [stp_takes hc]
    exact ⟨_, m', r1, r2⟩
theorem take_b {w W : World} {A B b1 b2 : Nat} {m n : Hb} {x y : Hd} {q1 q2 q : hc.OpV} {first : Int} {t : List Int} {l : List hc.OpV} (h : CB w A m x B n y b1 b2 q1 q2 W) (hf : 0 ≤ first ∧ first ≤ 4294967295) (ht : t.length ≤ 2000) (o : PcO first t l y) (hl : l.length ≤ 60) (hc : cf t q < t.length) {a : Option Addr} {tn cap : Nat} (hp : SlA .u8 w a tn cap t) :
    Calls Try.prog 9 #[.pointer (some ⟨B, 0, none⟩), .int .u32 ((first + (cf t q : Int)) % 4294967296), .slice (if cap = cf t q then a else a.map (·.add (cf t q))) (ce t q - cf t q) (cap - cf t q)] W fun e w' => ∃ v n', e = .returned v ∧ CB w A m x B n' (stp first t y q) b1 b2 q1 q2 w' := by
  refine (take_a (q1 := q1) (q2 := q2) ⟨h.k.symm, h.x1, h.x2⟩ hf ht o hl hc hp).mono fun e w' r => ?_
  obtain ⟨v, m', r1, r2⟩ := r
  exact ⟨v, m', r1, r2.k.symm, r2.x1, r2.x2⟩
theorem take_snocO {l : List hc.OpV} {k : Nat} (hk : k < l.length) : l.take (k + 1) = l.take k ++ [l.getD k default] := by
  rw [List.take_succ_eq_append_getElem hk]
  simp [List.getD, hk]
theorem rev_getO {l : List hc.OpV} {k n : Nat} (hn : l.length = n) (hk : k < n) : l.reverse.getD k default = l.getD (n - 1 - k) default := by
  subst hn
  rw [List.getD_eq_getElem?_getD, List.getD_eq_getElem?_getD, List.getElem?_reverse hk]
end Go.Proofs.Ytjncldkcaghgbaa.hd
/-!   HeardOrder.
-/
namespace Go.Proofs.Ytjncldkcaghgbaa.hd
open Go.RowKit Go.Shelf aid mem rng sp rn
attribute [local go_sem ↓] Go.wp_at_zero Go.wp_at_succ
set_option linter.unusedVariables false
set_option linter.unusedSimpArgs false

abbrev OrI (w : World) (A B : Nat) (first : Int) (t : List Int) (l l' : List hc.OpV) (W : World) : Prop := ∃ m n x y, K2 w A m x B n y W ∧ PcO first t l x ∧ PcO first t l' y
set_option maxRecDepth 100000 in
set_option maxHeartbeats 8000000 in
theorem walk_HeardOrder (w : World) (first : Int) (hf : 0 ≤ first ∧ first ≤ 4294967295) (pa : Option Addr) (tn pc : Nat) (pz : List Int) (hpr : IsRow .u8 w pa tn pc pz) (la : Option Addr) (ln lc : Nat) (l : List hc.OpV) (hl : hc.OpA w la ln lc l) :
    Calls Try.prog 4 #[.int .u32 first, .slice pa tn pc, .slice la ln lc] w fun e w' => e = .returned (.bool true) ∧ Below w.heap.size w w' := by
  have hp := sl_of_row hpr
  generalize pz.take tn = t at *
  have hpl := hp.len
  have hpm := hp.most; have hpe := hp.le
  have hle := hl.le
  have hmost := hl.most
  have hlen := hl.len
  unfold maxLen at hpm hmost
  have HP := Lib.hid hp
  have HC := Lib.hid hl.cells
  clear hp hpr hl
  by_cases hbig : 2000 < tn
  · clear HC HP
    have e1 : (2000 : Int) < (tn : Int) := by omega
    go_enter Try.func4, Try.ntmps4
    go_upto_region 3 with (go_at_call 7; (with_reducible refine (known_w _).mono ?_); rintro e w1 ⟨rfl, hb⟩)
    go_wp2_with (go_at_call 7; (with_reducible refine (known_v hb).mono ?_); rintro e w2 ⟨rfl, hb2⟩)
    go_ret
    exact ⟨rfl, hb2⟩
  have e1 : ¬ (2000 : Int) < (tn : Int) := by omega
  have HN := Lib.hid (fun X => show Calls Try.prog 8 #[.int .u32 first, .int .i64 65536] X (RetN first 65536 X) from new_ok first 65536 hf (by omega) X)
  unfold RetN at HN
  go_enter Try.func4, Try.ntmps4
  go_upto_region 7 with (first
    | (go_at_call 7; (with_reducible refine (known_w _).mono ?_); rintro e w1 ⟨rfl, hb⟩)
    | (go_at_call 8; first
      | ((with_reducible refine (HN.out w1).mono ?_); rintro e w2 ⟨A, m, rfl, n1, n2, n3⟩)
      | ((with_reducible refine (HN.out _).mono ?_); rintro e w3 ⟨B, n, rfl, o1, o2, o3⟩)))
  have P0 : OrI w A B first t [] [] w3 := by
    have h12 := hb.trans (n2.mono hb.size)
    refine ⟨m, n, _, _, ⟨⟨n1.later o2, h12.trans (o2.mono h12.size), fun c hc => Nat.le_trans hb.size (n3 c hc)⟩, ⟨o1, h12.trans (o2.mono h12.size), fun c hc => Nat.le_trans h12.size (o3 c hc)⟩, fun c hc e => ?_⟩, PcO.nil hf t, PcO.nil hf t⟩
    have q1 := n1.lt c hc
    have q2 := o3 c e
    omega
  clear n1 n2 n3 o1 o2 o3 hb HN
  generalize w3 = W3 at *
  go_upto_region 9 with fail
  go_cut [11] (fun s11 wx => ∃ N : Nat, s11 = .int .i64 N ∧ N ≤ ln ∧ N ≤ 60 ∧ OrI w A B first t [] [] wx)
  case first =>
    have HQ := Lib.hid P0
    clear P0
    by_cases h60 : (60 : Int) < (ln : Int)
    · go_wp2_with fail
      all_goals first
        | (exfalso; omega)
        | (go_meet; exact ⟨60, rfl, by omega, by omega, HQ.out⟩)
    · go_wp2_with fail
      all_goals first
        | (exfalso; omega)
        | (go_meet; exact ⟨ln, rfl, by omega, by omega, HQ.out⟩)
  case rest =>
  clear P0
  obtain ⟨N, rfl, hN1, hN2, P⟩ := hcut
  generalize wc = V at *
  obtain ⟨L, hL⟩ : ∃ L, L = l.take N := ⟨_, rfl⟩
  have hLl : L.length = N := by rw [hL, List.length_take]; omega
  have hLg : ∀ k, k < N → L.getD k default = l.getD k default := fun k hk => by rw [hL, List.getD_eq_getElem?_getD, List.getD_eq_getElem?_getD, List.getElem?_take_of_lt hk]
  have HM := Lib.hid (And.intro hLl hLg)
  clear hL hLl hLg
  go_wp2_with fail
  go_loopw [12] (fun i wr => ∃ k : Nat, i = .int .i64 k ∧ k ≤ N ∧ OrI w A B first t (L.take k) (L.reverse.take k) wr) (fun i _ => N - (intOf i).toNat)
  case atStart => exact ⟨0, rfl, by omega, P⟩
  case round =>
    clear P
    obtain ⟨k, rfl, hk, P⟩ := hrel
    by_cases hlt : k < N
    case pos =>
      obtain ⟨Bo, off, rfl, hc⟩ := HC.out (by omega)
      obtain ⟨j, hj⟩ : ∃ j : Nat, j = N - 1 - k := ⟨_, rfl⟩
      have hjl : j < N := by omega
      have hji : (N : Int) - 1 - (k : Int) = (j : Int) := by omega
      have hw1 : IntKind.i64.wrap ((N : Int) - 1) = (N : Int) - 1 := IntWalk.i64_in _ (by omega)
      have hw2 : IntKind.i64.wrap ((N : Int) - 1 - (k : Int)) = (j : Int) := by rw [hji]; exact IntWalk.i64_in _ (by omega)
      have HTA : Hid (L.take (k + 1) = L.take k ++ [l.getD k default]) := Lib.hid (by rw [take_snocO (by rw [HM.out.1]; exact hlt), HM.out.2 k hlt])
      have HTB : Hid (L.reverse.take (k + 1) = L.reverse.take k ++ [l.getD j default]) := Lib.hid (by rw [take_snocO (by rw [List.length_reverse, HM.out.1]; exact hlt), rev_getO HM.out.1 hlt, ← hj, HM.out.2 j hjl])
      have HLN : Hid ((L.take k).length ≤ 60 ∧ (L.reverse.take k).length ≤ 60) := Lib.hid ⟨by rw [List.length_take]; omega, by rw [List.length_take]; omega⟩
      obtain ⟨c0, c1, hq1⟩ := hc k (by omega)
      obtain ⟨d0, d1, hq2⟩ := hc j (by omega)
      generalize L.take k = La at *
      generalize L.reverse.take k = Lb at *
      generalize l.getD k default = q1 at *
      generalize l.getD j default = q2 at *
      clear hc hj hji
      obtain ⟨m, n, x, y, K, oa, ob⟩ := P
      have HO := Lib.hid (And.intro oa ob)
      have HA : ∀ (o : Obj) (W : World) (p : Addr) (u : Value), W.cell? p = some u → (W.alloc o).cell? p = some u := fun o W p u hp => ((bal o).cell (World.block_lt_of_cell? W _ hp)).trans hp
      have hck : ∀ (p : Addr) (u : Value), w.cell? p = some u → wr.cell? p = some u := fun p u hp => (K.a.below.cell (World.block_lt_of_cell? w _ hp)).trans hp
      have c0 := hck _ _ c0; have c1 := hck _ _ c1; have d0 := hck _ _ d0; have d1 := hck _ _ d1
      have m1 := fun p u hp => HA (.cells #[.int .u16 0, .int .u16 0] 51) wr p u hp
      have m2 := fun p u hp => HA (.cells #[.int .u16 0, .int .u16 0] 51) _ p u (m1 p u hp)
      have m3 := fun p u hp => HA (cuO q1) _ p u (m1 p u hp)
      have m4 := fun p u hp => HA (.cells #[.int .u16 0, .int .u16 0] 51) _ p u (HA (cuO q1) wr p u hp)
      have m5 := fun p u hp => HA (cuO q1) wr p u hp
      have m6 := fun p u hp => HA (cuO q2) wr p u hp
      have e10 := m1 _ _ c0; have e11 := m1 _ _ c1; have e12 := m1 _ _ d0; have e13 := m1 _ _ d1
      have e20 := m2 _ _ c0; have e21 := m2 _ _ c1; have e22 := m2 _ _ d0; have e23 := m2 _ _ d1
      have e30 := m3 _ _ c0; have e31 := m3 _ _ c1; have e32 := m3 _ _ d0; have e33 := m3 _ _ d1
      have e40 := m4 _ _ c0; have e41 := m4 _ _ c1; have e42 := m4 _ _ d0; have e43 := m4 _ _ d1
      have e50 := m5 _ _ c0; have e51 := m5 _ _ c1; have e52 := m5 _ _ d0; have e53 := m5 _ _ d1
      have e60 := m6 _ _ c0; have e61 := m6 _ _ c1; have e62 := m6 _ _ d0; have e63 := m6 _ _ d1
      have HTW := Lib.hid (two_cuts K q1 q2)
      clear K oa ob HA hck m1 m2 m3 m4 m5 m6
      go_upto_region 13 with fail
      go_cut [13, 14] (fun s13 s14 wx => ∃ b1 b2 : Nat, s13 = .pointer (some ⟨b1, 0, none⟩) ∧ s14 = .pointer (some ⟨b2, 0, none⟩) ∧ Hid (CB w A m x B n y b1 b2 q1 q2 wx))
      case first =>
        go_region
        · go_wp2_with fail
          go_meet
          exact ⟨_, _, rfl, rfl, Lib.hid HTW.out.1⟩
        · go_wp2_with fail
          go_meet
          exact ⟨_, _, rfl, rfl, Lib.hid HTW.out.2⟩
      case rest =>
      clear e10 e11 e12 e13 e20 e21 e22 e23 e30 e31 e32 e33 e40 e41 e42 e43 e50 e51 e52 e53 e60 e61 e62 e63 HTW c0 c1 d0 d1
      obtain ⟨b1, b2, rfl, rfl, D⟩ := hcut
      generalize wc = V1 at *
      obtain ⟨⟨p10, p11⟩, p12, p13⟩ := hq1
      obtain ⟨⟨p20, p21⟩, p22, p23⟩ := hq2
      -- the one
      obtain ⟨c0, c1⟩ := cu_c D.x1
      have hF := cf_le t q1
      have hFp : q1.pos ≤ (tn : Int) → ((cf t q1 : Nat) : Int) = q1.pos := fun h => by unfold cf; rw [hpl]; omega
      have hFt : (tn : Int) ≤ q1.pos → ((cf t q1 : Nat) : Int) = (tn : Int) := fun h => by unfold cf; rw [hpl]; omega
      have hES : ((cf t q1 : Nat) : Int) + q1.n ≤ (tn : Int) → ((ce t q1 : Nat) : Int) = (cf t q1 : Nat) + q1.n := fun h => by unfold ce; rw [hpl]; omega
      have hET : (tn : Int) ≤ ((cf t q1 : Nat) : Int) + q1.n → ((ce t q1 : Nat) : Int) = (tn : Int) := fun h => by unfold ce; rw [hpl]; omega
      have HT := Lib.hid (fun h => take_a (q := q1) D hf (by omega) HO.out.1 HLN.out.1 h HP.out)
      have HNO : Hid (¬ cf t q1 < tn → stp first t x q1 = x) := Lib.hid (fun h => stp_same (by rw [hpl]; exact h))
      rw [hpl] at HT
      have hwp : IntKind.i64.wrap q1.pos = q1.pos := IntWalk.i64_in _ (by omega)
      have hwn : IntKind.i64.wrap q1.n = q1.n := IntWalk.i64_in _ (by omega)
      generalize cf t q1 = F at *
      generalize ce t q1 = G at *
      rw [hpl] at hF
      go_upto_region 14 with fail
      go_cut [15] (fun s15 wx => s15 = .int .i64 ((F : Nat) : Int) ∧ wx = V1)
      case first =>
        by_cases hcmp : q1.pos < (tn : Int)
        · go_wp2_with fail
          all_goals first
            | (exfalso; omega)
            | (go_meet; exact ⟨by go_num, rfl⟩)
        · go_wp2_with fail
          all_goals first
            | (exfalso; omega)
            | (go_meet; exact ⟨by go_num, rfl⟩)
      case rest =>
      obtain ⟨rfl, rfl⟩ := hcut
      obtain ⟨i0, hi, hz0, hz1, hz2⟩ := info_split8
      go_upto_if 64 with fail
      go_cut [] (fun wx => ∃ m2, Hid (CB w A m2 (stp first t x q1) B n y b1 b2 q1 q2 wx))
      case first =>
        by_cases hFl : F < tn
        · have hFI : (F : Int) < (tn : Int) := by omega
          have HTT := Lib.hid (HT.out hFl)
          clear HT HNO hFp hFt
          have hw3 : IntKind.u32.wrap (F : Int) = (F : Int) := by unfold IntKind.wrap; simp [IntKind.bits, IntKind.signed]; omega
          have hw4 : IntKind.u32.wrap (first + (F : Int)) = (first + (F : Int)) % 4294967296 := by unfold IntKind.wrap; simp [IntKind.bits, IntKind.signed]
          have hsl := run_slice_two Try.prog 24 5 i0 Try.underlying24 hi hz1 pa tn pc F G (by omega) (by omega)
          generalize (if pc = F then pa else Option.map (fun x => x.add F) pa) = qa2 at *
          generalize (first + (F : Int)) % 4294967296 = num at *
          by_cases hS : (F : Int) + q1.n < (tn : Int)
          · have e := hES (by omega)
            have hgn : (F : Int) + q1.n = (G : Int) := by omega
            rw [hgn] at hS
            clear e hES hET hF
            go_wp2_with (go_at_call 9; go_must ((with_reducible refine HTT.out.mono ?_); rintro e w3 ⟨v, m2, rfl, D2⟩))
            go_meet
            exact ⟨_, Lib.hid D2⟩
          · have e := hET (by omega)
            obtain rfl : G = tn := by omega
            clear e hES hET hF
            go_wp2_with (go_at_call 9; go_must ((with_reducible refine HTT.out.mono ?_); rintro e w3 ⟨v, m2, rfl, D2⟩))
            go_meet
            exact ⟨_, Lib.hid D2⟩
        · have hFI : ¬ (F : Int) < (tn : Int) := by omega
          have HD := Lib.hid D
          go_wp2_with fail
          go_meet
          exact ⟨m, Lib.hid (by rw [HNO.out hFl]; exact HD.out)⟩
      case rest =>
      obtain ⟨m2, D⟩ := hcut
      generalize wc = V2 at *
      have HX := Lib.hid (HO.out.1.step (by omega) q1)
      clear hF hES hET HT HNO hFp hFt hwp hwn c0 c1
      generalize stp first t x q1 = x2 at *
      generalize hQ1 : q1 = Q1 at *
      clear hQ1
      have D := D.out
      -- the other
      obtain ⟨c0, c1⟩ := cu_c D.x2
      have hF := cf_le t q2
      have hFp : q2.pos ≤ (tn : Int) → ((cf t q2 : Nat) : Int) = q2.pos := fun h => by unfold cf; rw [hpl]; omega
      have hFt : (tn : Int) ≤ q2.pos → ((cf t q2 : Nat) : Int) = (tn : Int) := fun h => by unfold cf; rw [hpl]; omega
      have hES : ((cf t q2 : Nat) : Int) + q2.n ≤ (tn : Int) → ((ce t q2 : Nat) : Int) = (cf t q2 : Nat) + q2.n := fun h => by unfold ce; rw [hpl]; omega
      have hET : (tn : Int) ≤ ((cf t q2 : Nat) : Int) + q2.n → ((ce t q2 : Nat) : Int) = (tn : Int) := fun h => by unfold ce; rw [hpl]; omega
      have HT := Lib.hid (fun h => take_b (q := q2) D hf (by omega) HO.out.2 HLN.out.2 h HP.out)
      have HNO : Hid (¬ cf t q2 < tn → stp first t y q2 = y) := Lib.hid (fun h => stp_same (by rw [hpl]; exact h))
      rw [hpl] at HT
      have hwp : IntKind.i64.wrap q2.pos = q2.pos := IntWalk.i64_in _ (by omega)
      have hwn : IntKind.i64.wrap q2.n = q2.n := IntWalk.i64_in _ (by omega)
      generalize cf t q2 = F at *
      generalize ce t q2 = G at *
      rw [hpl] at hF
      go_upto_region 17 with fail
      go_cut [16] (fun s16 wx => s16 = .int .i64 ((F : Nat) : Int) ∧ wx = V2)
      case first =>
        by_cases hcmp : q2.pos < (tn : Int)
        · go_wp2_with fail
          all_goals first
            | (exfalso; omega)
            | (go_meet; exact ⟨by go_num, rfl⟩)
        · go_wp2_with fail
          all_goals first
            | (exfalso; omega)
            | (go_meet; exact ⟨by go_num, rfl⟩)
      case rest =>
      obtain ⟨rfl, rfl⟩ := hcut
      go_upto_if 91 with fail
      have HY := Lib.hid (HO.out.2.step (by omega) q2)
      by_cases hFl : F < tn
      · have hFI : (F : Int) < (tn : Int) := by omega
        have HTT := Lib.hid (HT.out hFl)
        clear HT HNO hFp hFt
        have hw3 : IntKind.u32.wrap (F : Int) = (F : Int) := by unfold IntKind.wrap; simp [IntKind.bits, IntKind.signed]; omega
        have hw4 : IntKind.u32.wrap (first + (F : Int)) = (first + (F : Int)) % 4294967296 := by unfold IntKind.wrap; simp [IntKind.bits, IntKind.signed]
        have hsl := run_slice_two Try.prog 24 5 i0 Try.underlying24 hi hz1 pa tn pc F G (by omega) (by omega)
        generalize (if pc = F then pa else Option.map (fun x => x.add F) pa) = qa2 at *
        generalize (first + (F : Int)) % 4294967296 = num at *
        by_cases hS : (F : Int) + q2.n < (tn : Int)
        · have e := hES (by omega)
          have hgn : (F : Int) + q2.n = (G : Int) := by omega
          rw [hgn] at hS
          clear e hES hET hF
          go_wp2_with (go_at_call 9; go_must ((with_reducible refine HTT.out.mono ?_); rintro e w3 ⟨v, n2, rfl, D2⟩))
          have HR : Hid (OrI w A B first t (La ++ [Q1]) (Lb ++ [q2]) w3) := Lib.hid ⟨_, _, _, _, D2.k, HX.out, HY.out⟩
          go_roundw
          case rel => exact ⟨k + 1, by go_num, by omega, by rw [HTA.out, HTB.out]; exact HR.out⟩
          case measure => simp [intOf]; omega
        · have e := hET (by omega)
          obtain rfl : G = tn := by omega
          clear e hES hET hF
          go_wp2_with (go_at_call 9; go_must ((with_reducible refine HTT.out.mono ?_); rintro e w3 ⟨v, n2, rfl, D2⟩))
          have HR : Hid (OrI w A B first t (La ++ [Q1]) (Lb ++ [q2]) w3) := Lib.hid ⟨_, _, _, _, D2.k, HX.out, HY.out⟩
          go_roundw
          case rel => exact ⟨k + 1, by go_num, by omega, by rw [HTA.out, HTB.out]; exact HR.out⟩
          case measure => simp [intOf]; omega
      · have hFI : ¬ (F : Int) < (tn : Int) := by omega
        have HD := Lib.hid D
        go_wp2_with fail
        have HY2 := HY.out
        rw [HNO.out hFl] at HY2
        have HR : Hid (OrI w A B first t (La ++ [Q1]) (Lb ++ [q2]) _) := Lib.hid ⟨_, _, _, _, HD.out.k, HX.out, HY2⟩
        go_roundw
        case rel => exact ⟨k + 1, by go_num, by omega, by rw [HTA.out, HTB.out]; exact HR.out⟩
        case measure => simp [intOf]; omega
    case neg =>
      obtain rfl : k = N := by omega
      obtain ⟨m, n, x, y, K, oa, ob⟩ := P
      obtain ⟨f1, f2, f3, f4⟩ := PcO.fin oa ob (fun q => by rw [List.take_of_length_le (by rw [HM.out.1]; omega), List.take_of_length_le (by rw [List.length_reverse, HM.out.1]; omega), List.mem_reverse])
      have hn := oa.nxb
      have hxl := oa.len; have hyl := ob.len
      rw [List.length_take] at hxl hyl
      have hxn : nx x.l ≤ 1000000000 := by omega
      have hyn : nx y.l ≤ 1000000000 := by omega
      obtain ⟨k1, hk1⟩ : ∃ k1 : Nat, nx x.l = (k1 : Int) := ⟨(nx x.l).toNat, by omega⟩
      have hk1t : k1 ≤ tn := by omega
      have HNA := Lib.hid (fun W (s : K2 w A m x B n y W) => next_q s.a.h)
      have HNB := Lib.hid (fun W (s : K2 w A m x B n y W) => next_q s.b.h)
      have HXA := Lib.hid (fun W (s : K2 w A m x B n y W) => text_any s.a.h hxn)
      have HXB := Lib.hid (fun W (s : K2 w A m x B n y W) => text_any s.b.h hyn)
      have HAA := Lib.hid (fun W (s : K2 w A m x B n y W) => labove_any s.a.h (by omega))
      have HAB := Lib.hid (fun W (s : K2 w A m x B n y W) => labove_any s.b.h (by omega))
      have HSP := Lib.hid (fun X a1 n1 c1 a2 n2 c2 (h1 : SlS X a1 n1 c1 (abv x)) (h2 : SlS X a2 n2 c2 (abv x)) => rsame_any h1 h2)
      have HSM := Lib.hid (fun X a1 a2 c1 c2 (h1 : SlA .u8 X a1 k1 c1 (t.take k1)) (h2 : SlA .u8 X a2 k1 c2 (t.take k1)) => oc.same_true a1 a2 k1 c1 c2 (t.take k1) X h1 h2)
      have HPT := Lib.hid (fun W (s : K2 w A m x B n y W) => (HP.out.later s.a.below).take k1 hk1t)
      unfold RetT at HXA HXB
      unfold rn.Told at HAA HAB
      have hlt1 : (t.take k1).length = k1 := by rw [List.length_take]; omega
      have hz1 : (nx x.l).toNat = k1 := by omega
      rw [f1, hk1] at HNB
      rw [hk1] at HNA
      rw [f2, hz1, hlt1] at HXA
      rw [f3, hz1, hlt1] at HXB
      rw [f4] at HAB
      obtain ⟨i0, hi, hz0, hz1', hz2⟩ := info_split8
      have hsl := run_slice_to Try.prog 24 5 i0 Try.underlying24 hi hz1' pa tn pc k1 (by omega)
      have hk1i : (k1 : Int) ≤ (tn : Int) := by omega
      have hdk : decide ((k1 : Int) ≤ (tn : Int)) = true := by simpa using hk1t
      clear f1 f2 f3 f4 hn hxl hyl hxn hyn hk1 oa ob hlt1 hz1
      generalize abv x = AB at *
      generalize t.take k1 = TX at *
      go_upto_region 21 with (go_at_call 14; (with_reducible refine (HNA.out _ K).mono ?_); rintro e w2 ⟨rfl, rfl⟩)
      have S := K.later (Below.refl _ _).drew
      clear K
      have P0 := S.a.below
      go_region_held3 (fun X => Below w.heap.size w X) (first | with_reducible exact P0 | with_reducible exact P1 | go_keep)
        (first
          | (go_at_call 16; first
            | ((with_reducible refine (HXA.out _ S).mono ?_); rintro e w3 ⟨ta, tc, rfl, t1, hb, _⟩; have T1 := t1.sla; have S2 := S.later hb; clear S hb t1; have S := S2; clear S2; have P1 := S.a.below)
            | ((with_reducible refine (HXB.out _ S).mono ?_); rintro e w3 ⟨ta, tc, rfl, t1, hb, _⟩; have T1 := t1.sla; have S2 := S.later hb; clear S hb t1; have S := S2; clear S2; have P1 := S.a.below))
          | (go_at_call 15; (with_reducible refine (HSM.out _ _ _ _ _ T1 (HPT.out _ S)).mono ?_); rintro e w3 ⟨rfl, kq, rfl⟩; have S2 := S.later (below_drewN (Below.refl _ _) kq); clear S T1; have S := S2; clear S2; have P1 := S.a.below)
          | (go_at_call 14; (with_reducible refine (HNB.out _ S).mono ?_); rintro e w3 ⟨rfl, rfl⟩)
          | (go_at_call 18; first
            | ((with_reducible refine (HAA.out _ S).mono ?_); rintro e w3 ⟨v, rfl, o1, hb⟩; obtain ⟨a6, c6, rfl, A1, _⟩ := sls_of_own o1; have S2 := S.later hb; clear S hb o1; have S := S2; clear S2; have P1 := S.a.below)
            | ((with_reducible refine (HAB.out _ S).mono ?_); rintro e w3 ⟨v, rfl, o1, hb⟩; obtain ⟨a7, c7, rfl, A2, _⟩ := sls_of_own o1; have A1' := A1.later hb; clear A1; have S2 := S.later hb; clear S hb o1; have S := S2; clear S2; have P1 := S.a.below))
          | (go_at_call 17; (with_reducible refine (HSP.out _ _ _ _ _ _ _ A1' A2).mono ?_); rintro e w3 ⟨rfl, hb⟩; (try simp only [decide_true]); have S2 := S.later hb; clear S hb A1' A2; have S := S2; clear S2; have P1 := S.a.below)
          | (go_at_call 7; (with_reducible refine (known_v S.a.below).mono ?_); rintro e w3 ⟨rfl, hb⟩; clear S; have P1 := hb))
      have HS := Lib.hid P1
      clear P0 P1
      go_wp2_with fail
      go_ret
      exact ⟨rfl, HS.out⟩
end Go.Proofs.Ytjncldkcaghgbaa.hd
