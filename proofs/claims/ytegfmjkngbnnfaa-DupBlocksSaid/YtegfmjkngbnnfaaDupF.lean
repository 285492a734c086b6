/-
  The reference's Look.
-/
import Derived.Test.YtegfmjkngbnnfaaDupE
namespace Go.Proofs.Ytegfmjkngbnnfaa.dp
open Go.RowKit aid mem sq sp
attribute [local go_sem ↓] Go.wp_at_zero Go.wp_at_succ
set_option linter.unusedVariables false

/-- the reference's memory within its loop -/
structure RS (w : World) (base R T : Nat) (t : Td) (v : Value) (W : World) : Prop where
  res : TdAt 33 W R noTd (.slice none 0 0)
  at_ : TdAt 33 W T t v
  own : W.ownsRow base 26 2 v t.sacks.length (spCells t.sacks)
  below : Below w.heap.size w W
  hb : base ≤ W.heap.size
  lts : R < base ∧ T < base ∧ R ≠ T ∧ w.heap.size ≤ T ∧ w.heap.size ≤ R ∧ w.heap.size ≤ base
section
variable {w : World} {base R T : Nat} {t : Td} {v : Value} {W W' : World}
theorem RS.later (h : RS w base R T t v W) (hb : Below W.heap.size W W') : RS w base R T t v W' :=
  ⟨h.res.later hb, h.at_.later hb, own_later h.own hb, h.below.trans (hb.mono h.below.size), Nat.le_trans h.hb hb.size, h.lts⟩
theorem RS.put (h : RS w base R T t v W) (i : Nat) (u : Value) {t' : Td} (ht : TdAt 33 (W.setCell ⟨T, i, none⟩ u) T t' v) (hs : t'.sacks = t.sacks) : RS w base R T t' v (W.setCell ⟨T, i, none⟩ u) := by
  have hk : Kept [T] W (W.setCell ⟨T, i, none⟩ u) := (Kept.refl [T] W).setCell (.inl (by simp)) u
  obtain ⟨l1, l2, n1, g1, g2, g3⟩ := h.lts
  refine ⟨h.res.keep hk (by simpa using n1), ht, ?_, h.below.trans (hk.below (by simpa using g1) h.below.size), by simpa using h.hb, h.lts⟩
  rw [hs]
  exact own_step h.own (fun k o hk' ho => hk.heap (by have := (own_in h.own hk').2; simp; omega) ho)
theorem RS.app (h : RS w base R T t v W) {s : Int × Int} {w1 : World} {v' : Value}
    (ho : w1.ownsRow base 26 2 v' (t.sacks.length + 1) (spCells t.sacks ++ [.int .i64 s.1, .int .i64 s.2])) (hg : W.grownBy w1 v.ownBlock) (hw : v'.ownBlock = v.ownBlock ∨ v'.ownBlock = some W.heap.size) :
    RS w base R T { t with sacks := t.sacks ++ [s] } v' (w1.setCell ⟨T, 4, none⟩ v') ∧ TdAt 33 w1 T t v := by
  have nv : ∀ k, k < base → v.ownBlock ≠ some k := fun k hk e => by have := (own_in h.own e).2; omega
  have nv' : ∀ k, v'.ownBlock = some k → base ≤ k := fun k hk => (own_in ho hk).2
  obtain ⟨l1, l2, n1, g1, g2, g3⟩ := h.lts
  have hh := h.hb
  have kb : ∀ {k : Nat} {o : Obj}, k < base → W.heap[k]? = some o → w1.heap[k]? = some o := fun {k o} hk ho => (hg.block k (by omega) (fun e => nv k hk e.symm)).trans ho
  have hk : Kept [T] w1 (w1.setCell ⟨T, 4, none⟩ v') := (Kept.refl [T] w1).setCell (.inl (by simp)) v'
  have hB1 : Below base W w1 := below_grown hg hh (fun k hk => (own_in h.own hk).2)
  refine ⟨⟨TdAt.keep (w := w1) (kb l1 h.res) hk (by simpa using n1), TdAt.s4 (w := w1) (t := t) (v := v) (kb l2 h.at_) v' _, ?_, (h.below.trans (hB1.mono g3)).trans (hk.below (by simpa using g1) (Nat.le_trans h.below.size hg.size)), by simpa using Nat.le_trans hh hg.size, h.lts⟩, kb l2 h.at_⟩
  rw [show ({ t with sacks := t.sacks ++ [s] } : Td).sacks = t.sacks ++ [s] from rfl, List.length_append, List.length_singleton, spCells_snoc]
  exact own_step ho (fun k o hk' ho' => hk.heap (by have := nv' k hk'; simp; omega) ho')
theorem RS.done (h : RS w base R T t v W) :
    TdAt 33 ((((((W.setCell ⟨R, 0, none⟩ (.int .i64 t.ack)).setCell ⟨R, 1, none⟩ (.bool t.isDup)).setCell ⟨R, 2, none⟩ (.int .i64 t.dup.1)).setCell ⟨R, 3, none⟩ (.int .i64 t.dup.2)).setCell ⟨R, 4, none⟩ v).setCell ⟨R, 5, none⟩ (.int .i64 t.bad)) R t v ∧
    LookP t 0 w (.returned (.tuple #[tdV t v, .int .i64 0])) ((((((W.setCell ⟨R, 0, none⟩ (.int .i64 t.ack)).setCell ⟨R, 1, none⟩ (.bool t.isDup)).setCell ⟨R, 2, none⟩ (.int .i64 t.dup.1)).setCell ⟨R, 3, none⟩ (.int .i64 t.dup.2)).setCell ⟨R, 4, none⟩ v).setCell ⟨R, 5, none⟩ (.int .i64 t.bad)) := by
  obtain ⟨l1, l2, n1, g1, g2, g3⟩ := h.lts
  have hk : Kept [R] W ((((((W.setCell ⟨R, 0, none⟩ (.int .i64 t.ack)).setCell ⟨R, 1, none⟩ (.bool t.isDup)).setCell ⟨R, 2, none⟩ (.int .i64 t.dup.1)).setCell ⟨R, 3, none⟩ (.int .i64 t.dup.2)).setCell ⟨R, 4, none⟩ v).setCell ⟨R, 5, none⟩ (.int .i64 t.bad)) :=
    ((((((Kept.refl [R] W).setCell (.inl (by simp)) _).setCell (.inl (by simp)) _).setCell (.inl (by simp)) _).setCell (.inl (by simp)) _).setCell (.inl (by simp)) _).setCell (.inl (by simp)) _
  have q0 := (heap_setCell_same _ R 0 _ _ (.int .i64 t.ack) h.res).trans rfl
  have q1 := (heap_setCell_same _ R 1 _ _ (.bool t.isDup) q0).trans rfl
  have q2 := (heap_setCell_same _ R 2 _ _ (.int .i64 t.dup.1) q1).trans rfl
  have q3 := (heap_setCell_same _ R 3 _ _ (.int .i64 t.dup.2) q2).trans rfl
  have q4 := (heap_setCell_same _ R 4 _ _ v q3).trans rfl
  have q5 := (heap_setCell_same _ R 5 _ _ (.int .i64 t.bad) q4).trans rfl
  refine ⟨q5, v, rfl, own_base (own_step h.own (fun k o hk' ho => hk.heap (by have := (own_in h.own hk').2; simp; omega) ho)) (fun k hk' => Nat.le_trans g3 (own_in h.own hk').2), h.below.trans (hk.below (by simpa using g2) h.below.size)⟩
end

set_option maxRecDepth 100000 in
set_option maxHeartbeats 6400000 in
theorem rlook_any (una nxt num : Int) (a : Option Addr) (n cap : Nat) (l : List Bk) (w : World) (hu : -9223372036854775808 ≤ una ∧ una ≤ 9223372036854775807) (hn : -9223372036854775808 ≤ nxt ∧ nxt ≤ 9223372036854775807) (hm : 0 ≤ num ∧ num ≤ 4294967295) (hl : SlB w a n cap l) (hbig : n ≤ 1000000000) :
    Calls Try.prog 9 #[.int .i64 una, .int .i64 nxt, .int .u32 num, .slice a n cap] w (LookP (lookP una nxt num l) (errP una nxt num) w) := by
  have HU := Lib.hid (fun W => runwrap_any una num W hu hm)
  have r1 := td_new 33 w noTd (.slice none 0 0)
  have b1 := bal (w := w) (.cells #[.int .i64 0, .bool false, .int .i64 0, .int .i64 0, .slice none 0 0, .int .i64 0] 33)
  simp only [noTd] at r1
  have NO : ∀ c, Hid (LookP noTd c w (.returned (.tuple #[tdV noTd (.slice none 0 0), .int .i64 c])) (w.alloc (.cells #[.int .i64 0, .bool false, .int .i64 0, .int .i64 0, .slice none 0 0, .int .i64 0] 33))) := fun c => Lib.hid ⟨_, rfl, World.ownsRow_nil _ _ _ _, b1⟩
  have hlk : errP una nxt num ≠ 0 → lookP una nxt num l = noTd := fun h => by unfold lookP; rw [if_neg h]
  have HLK := Lib.hid hlk
  have HTE := Lib.hid (tK_end una nxt num l)
  rcases err_cases una nxt num with ⟨he, h⟩ | ⟨⟨h1, h2, h3, h4⟩, ⟨he, h⟩ | ⟨h5, h6, h7, ⟨he, h⟩ | ⟨he, h⟩⟩⟩
  · have HQ := Lib.hid (HLK.out (by omega))
    rw [HQ.out, he]
    have HF := NO 3
    clear NO HU HLK hlk HTE he
    have d0 := r1.c0; have d1 := r1.c1; have d2 := r1.c2; have d3 := r1.c3; have d4 := r1.c4; have d5 := r1.c5
    rcases (show una < 0 ∨ (0 ≤ una ∧ 4611686018427387904 < nxt) ∨ (0 ≤ una ∧ nxt ≤ 4611686018427387904 ∧ nxt < una) ∨ (0 ≤ una ∧ nxt ≤ 4611686018427387904 ∧ una ≤ nxt ∧ 65536 < nxt - una) by omega) with k1 | ⟨k1, k2⟩ | ⟨k1, k2, k3⟩ | ⟨k1, k2, k3, k4⟩
    all_goals
      clear h
      go_enter Try.func9, Try.ntmps9
      go_wp2_with fail
      exact bodyPost_ret (v := .tuple #[tdV noTd (.slice none 0 0), .int .i64 3]) (by simp [results, Try.results9, go_sem, d0, d1, d2, d3, d4, d5, noTd]) rfl HF.out
  · have HQ := Lib.hid (HLK.out (by omega))
    rw [HQ.out, he]
    have HF := NO 11
    have hb := runw_bd una num
    clear NO HLK hlk HTE he
    have d0 := r1.c0; have d1 := r1.c1; have d2 := r1.c2; have d3 := r1.c3; have d4 := r1.c4; have d5 := r1.c5
    go_enter Try.func9, Try.ntmps9
    go_wp2_with fail
    refine (HU.out _).mono ?_
    rintro e w' ⟨rfl, rfl⟩
    generalize runw una num = ack at *
    obtain ⟨b3, b4⟩ : -1 ≤ ack ∧ ack ≤ 4611686018427387904 := by omega
    clear hb
    rcases (show ack < 0 ∨ (0 ≤ ack ∧ 65536 < una - ack) by omega) with k1 | ⟨k1, k2⟩
    all_goals
      clear h
      go_wp2_with fail
      exact bodyPost_ret (v := .tuple #[tdV noTd (.slice none 0 0), .int .i64 11]) (by simp [results, Try.results9, go_sem, d0, d1, d2, d3, d4, d5, noTd]) rfl HF.out
  · have HQ := Lib.hid (HLK.out (by omega))
    rw [HQ.out, he]
    have HF := NO 12
    clear NO HLK hlk HTE he
    have d0 := r1.c0; have d1 := r1.c1; have d2 := r1.c2; have d3 := r1.c3; have d4 := r1.c4; have d5 := r1.c5
    go_enter Try.func9, Try.ntmps9
    go_wp2_with fail
    refine (HU.out _).mono ?_
    rintro e w' ⟨rfl, rfl⟩
    generalize runw una num = ack at *
    go_wp2_with fail
    exact bodyPost_ret (v := .tuple #[tdV noTd (.slice none 0 0), .int .i64 12]) (by simp [results, Try.results9, go_sem, d0, d1, d2, d3, d4, d5, noTd]) rfl HF.out
  · have HE := Lib.hid (HTE.out he)
    rw [he]
    have hlen := hl.len
    have HT := Lib.hid (fun o => tK_start (runw una num) nxt l o)
    have HD := Lib.hid (fun W (hW : Below w.heap.size w W) => rdup_any (runw una num) nxt a n cap l W (by omega) (hl.later hW))
    have HF := Lib.hid (fun (k : Nat) W => rwell_any (runw una num) (l.getD k (0, 0)) W (by omega) (hl.getOk k))
    have HYES := Lib.hid (fun o k ho hk h => @tK_yes (runw una num) nxt l o k ho hk h)
    have HNO := Lib.hid (fun o k ho hk h => @tK_no (runw una num) nxt l o k ho hk h)
    have HBD := Lib.hid (fun o k => tK_bd (runw una num) nxt l o k)
    have HDB : Hid (dupB (runw una num) nxt l = decide (0 < lenI (dupP (runw una num) nxt l))) := Lib.hid (by
      unfold dupB
      rcases dup_cases (runw una num) nxt l with ⟨h, _⟩ | ⟨h, _⟩
      · rw [h]; rfl
      · rw [len_fit h, Bool.eq_iff_iff]; simp)
    have HDN : Hid (dupB (runw una num) nxt l = true → 1 ≤ n) := Lib.hid (fun h => by
      rcases dup_cases (runw una num) nxt l with ⟨_, h2⟩ | ⟨_, _, _, b, r, rfl, _⟩
      · rw [h] at h2; cases h2
      · rw [← hlen]; simp)
    generalize lookP una nxt num l = tE at *
    generalize runw una num = ack at *
    clear NO HLK hlk HTE he
    have d0 := r1.c0
    go_enter Try.func9, Try.ntmps9
    go_wp2_with fail
    refine (HU.out _).mono ?_
    rintro e w' ⟨rfl, rfl⟩
    go_wp2_with fail
    refine (HD.out _ b1).mono ?_
    rintro e W2 ⟨rfl, h2⟩
    clear HU HD
    have HLen := Lib.hid (rlen_any (dupP ack nxt l))
    have hAt := td_new 33 W2 ⟨ack, false, dupP ack nxt l, [], 0⟩ (.slice none 0 0)
    have b2 := bal (w := W2) (.cells #[.int .i64 ack, .bool false, .int .i64 (dupP ack nxt l).1, .int .i64 (dupP ack nxt l).2, .slice none 0 0, .int .i64 0] 33)
    generalize dupP ack nxt l = dp at *
    generalize lenI dp = z at *
    have hsz := h2.size
    have hR0 : RS w (W2.heap.size + 1) w.heap.size W2.heap.size ⟨ack, false, dp, [], 0⟩ (.slice none 0 0) (W2.alloc (.cells #[.int .i64 ack, .bool false, .int .i64 dp.1, .int .i64 dp.2, .slice none 0 0, .int .i64 0] 33)) :=
      ⟨(TdAt.later r1 h2).later b2, hAt, World.ownsRow_nil _ _ _ _, (b1.trans (h2.mono b1.size)).trans (b2.mono (by simp at hsz; omega)), by simp, by simp at hsz; omega⟩
    have c2 := hAt.c2; have c3 := hAt.c3
    generalize dupB ack nxt l = db at *
    obtain ⟨o, hO⟩ : ∃ o : Nat, o = if db = true then 1 else 0 := ⟨_, rfl⟩
    rw [← hO] at HE
    have hdn : o ≤ n := by
      cases db with
      | false => simp at hO; omega
      | true => simp at hO; have := HDN.out rfl; omega
    have hdb : (0 < z ∧ db = true) ∨ (z ≤ 0 ∧ db = false) := by
      rw [HDB.out]
      by_cases h : 0 < z
      · left; simp [h]
      · right; simp [h]; omega
    have HO := Lib.hid hO
    have HDBC := Lib.hid hdb
    clear hO hdb HDB HDN r1 b1 b2 h2 hAt hsz
    go_wp2_with fail
    refine (HLen.out _).mono ?_
    rintro e W3 ⟨rfl, h3⟩
    have hR3 := hR0.later h3
    have f1 := hR3.at_.fz 1; have c1 := hR3.at_.c1
    clear hR0 h3 c2 c3
    generalize W2.heap.size = T at *
    generalize T + 1 = base at *
    have H8 := Lib.hid (hR3.put 1 (.bool db) (t' := ⟨ack, db, dp, [], 0⟩) (hR3.at_.s1 db) rfl)
    rw [← HT.out o] at H8
    have H9 : Hid (db = false → RS w base w.heap.size T (tK ack nxt l o o) (.slice none 0 0) W3) := Lib.hid (fun e => by subst e; rw [HT.out o]; exact hR3)
    have HRW : Hid (db = false → o = 0) := Lib.hid (fun e => by have := HO.out; rw [e] at this; simpa using this)
    have HRV : Hid (db = true → o = 1) := Lib.hid (fun e => by have := HO.out; rw [e] at this; simpa using this)
    have HOK : Hid (∀ k, (tK ack nxt l o k).isDup = db) := Lib.hid (fun k => by have := congrArg Td.isDup (HT.out o); simpa [tK] using this)
    have HL := Lib.hid hl
    clear hR3 HT HO hl
    rcases HDBC.out with ⟨hz, rfl⟩ | ⟨hz, rfl⟩
    all_goals
      first
        | (have hzb : decide (0 < z) = true := by simpa using hz)
        | (have hzb : decide (0 < z) = false := by simp; omega)
      go_wp2_with fail
      clear c1 f1 d0
      generalize hR : w.heap.size = R at *
      have HRR := Lib.hid hR
      clear hR
      go_loopw [12] (fun i wr => ∃ (k : Nat) (v : Value), k ≤ n ∧ i = .int .i64 k ∧ RS w base R T (tK ack nxt l o (max k o)) v wr) (fun i _ => n - (intOf i).toNat)
      case atStart =>
        first
          | exact ⟨0, _, Nat.zero_le _, rfl, by rw [Nat.zero_max]; exact H8.out⟩
          | exact ⟨0, _, Nat.zero_le _, rfl, by rw [Nat.zero_max]; exact H9.out (by first | rfl | trivial)⟩
      case round =>
        clear H8 H9 HDBC
        obtain ⟨k, v, hk, rfl, hK⟩ := hrel
        obtain ⟨wo, rfl⟩ : ∃ wo : World, wo = wr := ⟨_, rfl⟩
        by_cases hkn : k < n
        · by_cases hko : k < o
          · have hmx : max k o = o := Nat.max_eq_right (by omega)
            have hmx1 : max (k + 1) o = o := by
              have : o ≤ 1 := by
                first
                  | (have := HRV.out (by first | rfl | trivial); omega)
                  | (have := HRW.out (by first | rfl | trivial); omega)
              omega
            first
              | (exfalso; have := HRW.out (by first | rfl | trivial); omega)
              | skip
            all_goals
              have ho1 : o = 1 := HRV.out (by first | rfl | trivial)
              have hk0 : k = 0 := by omega
              subst hk0
              have g1 := hK.at_.c1
              rw [HOK.out] at g1
              have HK := Lib.hid hK
              clear hK
              go_wp2_with fail
              go_roundw
              case rel => exact ⟨1, v, by omega, rfl, by rw [hmx1, ← hmx]; exact HK.out⟩
              case measure => simp [intOf]; omega
          · have hmx : max k o = k := Nat.max_eq_left (by omega)
            have hmx1 : max (k + 1) o = k + 1 := Nat.max_eq_left (by omega)
            rw [hmx] at hK
            have g1 := hK.at_.c1
            rw [HOK.out k] at g1
            have hs := HF.out k
            have hY := HYES.out o k (by omega) (by omega)
            have hNo := HNO.out o k (by omega) (by omega)
            obtain ⟨bd1, bd2, bd3⟩ := HBD.out o k
            have hsb := frm_len ack (l.getD k (0, 0))
            have hLn := rlen_any (frm ack (l.getD k (0, 0)))
            obtain ⟨b, off, rfl, hc⟩ := (HL.out.later hK.below).cells (by omega)
            obtain ⟨x0, x1⟩ := hc k (by omega)
            have hcap := HL.out.le
            have hmost := HL.out.most
            unfold maxLen at hmost
            generalize frm ack (l.getD k (0, 0)) = s at *
            generalize l.getD k (0, 0) = y at *
            generalize lenI s = zs at *
            generalize tK ack nxt l o k = t at *
            have hIS : isS ack nxt s = (decide (0 < zs) && decide (ack < s.1) && decide (s.2 ≤ nxt)) := by unfold isS; congr 2; rw [Bool.eq_iff_iff]; simp; omega
            have HSS := Lib.hid hs
            have HY := Lib.hid hY
            have HNN := Lib.hid hNo
            have HLn := Lib.hid hLn
            have HIS := Lib.hid hIS
            rcases (show ((k : Int) == 0) = false ∨ (((k : Int) == 0) = true ∧ k = 0) by by_cases h : k = 0; right; simp [h]; left; simp; omega) with hkz | ⟨hkz, hkz0⟩
            all_goals first
              | (exfalso; have := HRV.out (by first | rfl | trivial); omega)
              | skip
            all_goals
              (try clear hkz0)
              clear hs hY hNo hLn hc hIS hsb hlen HYES HNO HBD HOK HRW HRV HF
              go_wp2_with fail
              refine (HSS.out _).mono ?_
              rintro e W8 ⟨rfl, h8⟩
              have K9 := (hK.later h8).later (bal (.cells #[.int .i64 s.1, .int .i64 s.2] 26))
              have x9 := sp_new W8 s
              have v0 := x9.c0; have v1 := x9.c1
              clear hK h8 HSS x0 x1 g1
              go_wp2_with fail
              refine (HLn.out _).mono ?_
              rintro e W10 ⟨rfl, h10⟩
              have K10 := K9.later h10
              have x10 := x9.later h10
              clear K9 x9 h10 v0 v1 HLn
              generalize W8.heap.size = X at *
              have v0 := x10.c0; have v1 := x10.c1
              by_cases hgood : 0 < zs ∧ ack < s.1 ∧ s.2 ≤ nxt
              · obtain ⟨q1, q2, q3⟩ := hgood
                have H := Lib.hid (HY.out (by rw [HIS.out]; simp [q1, q2, q3]))
                obtain ⟨i0, hi, hz0, hz1, hz2⟩ := info_split info_span
                have K11 := K10.later (bal (.cells #[.int .i64 s.1, .int .i64 s.2] 26))
                have HSRC := Lib.hid (span_src W10 s)
                have HOWN := Lib.hid K11.own
                have hbb := K11.hb
                have g4 := K10.at_.c4
                have n4 := K10.at_.lt
                have HK := Lib.hid K11
                clear HY HNN HIS x10 K10 K11
                go_wp2_with (at_builtin; refine wpList_append_sz _ rfl (.tmp 94) (.tmp 96) 27 27 rfl base 26 i0 (.agg #[.int .i64 0, .int .i64 0]) 2 16 Try.underlying27 hi hz0 hz1 (by decide) hz2 rfl v t.sacks.length (spCells t.sacks) rfl HOWN.out _ rfl 1 [.int .i64 s.1, .int .i64 s.2] HSRC.out (by unfold maxLen; omega) (by omega) hbb ?_; intro a' cap' w1 ho hg hw; obtain ⟨hL, hT4⟩ := HK.out.app ho hg hw; have g5 := hT4.c4; have g6 := hT4.fz 4; have HLL := Lib.hid hL; clear hL hT4 ho hg hw HK HOWN HSRC)
                go_roundw
                case rel => exact ⟨k + 1, _, by omega, by go_num, by rw [hmx1, H.out]; exact HLL.out⟩
                case measure => simp [intOf]; omega
              · have H := Lib.hid (HNN.out (by rw [HIS.out, Bool.eq_false_iff]; simp; omega))
                have g5 := K10.at_.c5; have f5 := K10.at_.fz 5
                have HK9 := Lib.hid (K10.put 5 (.int .i64 (t.bad + 1)) (K10.at_.s5 _) rfl)
                clear HY HNN HIS K10 x10
                rcases (show zs ≤ 0 ∨ (0 < zs ∧ s.1 ≤ ack) ∨ (0 < zs ∧ ack < s.1 ∧ nxt < s.2) by omega) with q1 | ⟨q1, q2⟩ | ⟨q1, q2, q3⟩
                all_goals
                  clear hgood
                  go_wp2_with fail
                  go_roundw
                  case rel => exact ⟨k + 1, v, by omega, by go_num, by rw [hmx1, H.out]; exact HK9.out⟩
                  case measure => simp [intOf]; omega
        · have hkE : k = n := by omega
          subst hkE
          have H : tK ack nxt l o (max k o) = tE := by rw [← HE.out, hlen, Nat.max_eq_left hdn]
          rw [H] at hK
          obtain ⟨va, vc, rfl⟩ := own_form hK.own
          obtain ⟨hA, hB⟩ := hK.done
          have c0 := hK.at_.c0; have c1 := hK.at_.c1; have c2 := hK.at_.c2; have c3 := hK.at_.c3; have c4 := hK.at_.c4; have c5 := hK.at_.c5
          have f0 := hK.res.fz 0; have f1 := hK.res.fz 1; have f2 := hK.res.fz 2; have f3 := hK.res.fz 3; have f4 := hK.res.fz 4; have f5 := hK.res.fz 5
          have d0 := hK.res.c0; have d1 := hK.res.c1; have d2 := hK.res.c2; have d3 := hK.res.c3; have d4 := hK.res.c4; have d5 := hK.res.c5
          have HA := Lib.hid hA
          have HB := Lib.hid hB
          simp only [noTd] at d0 d1 d2 d3 d4 d5
          clear H hA hB hK hlen HE HRW HRV HOK
          go_wp2_with fail
          have e0 := HA.out.c0; have e1 := HA.out.c1; have e2 := HA.out.c2; have e3 := HA.out.c3; have e4 := HA.out.c4; have e5 := HA.out.c5
          exact bodyPost_ret (v := .tuple #[tdV tE (.slice va tE.sacks.length vc), .int .i64 0]) (by simp [results, Try.results9, go_sem, e0, e1, e2, e3, e4, e5]) rfl HB.out
end Go.Proofs.Ytegfmjkngbnnfaa.dp
