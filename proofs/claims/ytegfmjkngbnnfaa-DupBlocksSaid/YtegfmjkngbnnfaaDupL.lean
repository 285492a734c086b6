/-
  Package dup: Look.
-/
import Derived.Test.YtegfmjkngbnnfaaDupT
namespace Go.Proofs.Ytegfmjkngbnnfaa.dp
open Go.RowKit aid mem sq sp
attribute [local go_sem ↓] Go.wp_at_zero Go.wp_at_succ
set_option linter.unusedVariables false

/-- the reader of a list's blocks -/
def RdNew (ack : Int) (a : Option Addr) (n cap : Nat) (l : List Bk) (w : World) (e : Ending) (w' : World) : Prop :=
  ∃ Bl Bn, e = .returned (rdF Bl Bn) ∧ Rd w' Bl Bn ack a n cap l ∧ Below w.heap.size w w' ∧ w.heap.size ≤ Bl ∧ w.heap.size ≤ Bn
theorem next_any (ack : Int) (a : Option Addr) (n cap : Nat) (l : List Bk) (w : World) (hl : SlB w a n cap l) (hk : -9223372036854775808 ≤ ack ∧ ack ≤ 9223372036854775807) :
    Calls Try.prog 18 #[.int .i64 ack, .slice a n cap] w (RdNew ack a n cap l w) := by
  have b1 := bal (w := w) (.cells #[.int .i64 ack] 3)
  have b2 := b1.alloc b1.size (.cells #[.slice a n cap] 23)
  have h1 := ((bal (w := w.alloc (.cells #[.int .i64 ack] 3)) (.cells #[.slice a n cap] 23)).block w.heap.size (by simp)).trans (heap_alloc_new w (.cells #[.int .i64 ack] 3))
  have h2 := heap_alloc_new (w.alloc (.cells #[.int .i64 ack] 3)) (.cells #[.slice a n cap] 23)
  simp only [World.size_alloc] at h2
  have HF := Lib.hid (show RdNew ack a n cap l w (.returned (rdF (w.heap.size + 1) w.heap.size)) ((w.alloc (.cells #[.int .i64 ack] 3)).alloc (.cells #[.slice a n cap] 23)) from ⟨_, _, rfl, ⟨h2, h1, hl.later b2, hk⟩, b2, by omega, by omega⟩)
  clear h1 h2 b1 b2 hl hk
  go_enter Try.func18, Try.ntmps18
  go_wp2_with fail
  go_ret
  exact HF.out

/-- Look's memory ahead of its reader -/
structure Boot (w : World) (nxt ack : Int) (W : World) : Prop where
  bx : W.heap[w.heap.size]? = some (.cells #[.int .i64 nxt] 3 (0, 0))
  res : TdAt 29 W (w.heap.size + 1) noTd (.slice none 0 0)
  ba : W.heap[w.heap.size + 1 + 1]? = some (.cells #[.int .i64 ack] 3 (0, 0))
  at_ : TdAt 29 W (w.heap.size + 1 + 1 + 1) ⟨ack, false, (0, 0), [], 0⟩ (.slice none 0 0)
  below : Below w.heap.size w W
  size : W.heap.size = w.heap.size + 1 + 1 + 1 + 1
theorem boot_any (w : World) (nxt ack : Int) : Boot w nxt ack ((((w.alloc (.cells #[.int .i64 nxt] 3)).alloc (.cells #[.int .i64 0, .bool false, .int .i64 0, .int .i64 0, .slice none 0 0, .int .i64 0] 29)).alloc (.cells #[.int .i64 ack] 3)).alloc (.cells #[.int .i64 ack, .bool false, .int .i64 0, .int .i64 0, .slice none 0 0, .int .i64 0] 29)) := by
  have a1 := bal (w := w) (.cells #[.int .i64 nxt] 3)
  have x1 := heap_alloc_new w (.cells #[.int .i64 nxt] 3)
  have z1 : (w.alloc (.cells #[.int .i64 nxt] 3)).heap.size = w.heap.size + 1 := by simp
  generalize w.alloc (.cells #[.int .i64 nxt] 3) = A at *
  have a2 := bal (w := A) (.cells #[.int .i64 0, .bool false, .int .i64 0, .int .i64 0, .slice none 0 0, .int .i64 0] 29)
  have x2 : TdAt 29 _ A.heap.size noTd (.slice none 0 0) := td_new 29 A noTd (.slice none 0 0)
  have z2 : (A.alloc (.cells #[.int .i64 0, .bool false, .int .i64 0, .int .i64 0, .slice none 0 0, .int .i64 0] 29)).heap.size = A.heap.size + 1 := by simp
  generalize hA2 : A.alloc (.cells #[.int .i64 0, .bool false, .int .i64 0, .int .i64 0, .slice none 0 0, .int .i64 0] 29) = A2 at *
  have x2 : TdAt 29 A2 A.heap.size noTd (.slice none 0 0) := hA2 ▸ x2
  have a3 := bal (w := A2) (.cells #[.int .i64 ack] 3)
  have x3 := heap_alloc_new A2 (.cells #[.int .i64 ack] 3)
  have z3 : (A2.alloc (.cells #[.int .i64 ack] 3)).heap.size = A2.heap.size + 1 := by simp
  generalize A2.alloc (.cells #[.int .i64 ack] 3) = A3 at *
  have a4 := bal (w := A3) (.cells #[.int .i64 ack, .bool false, .int .i64 0, .int .i64 0, .slice none 0 0, .int .i64 0] 29)
  have x4 := td_new 29 A3 ⟨ack, false, (0, 0), [], 0⟩ (.slice none 0 0)
  have z4 : (A3.alloc (.cells #[.int .i64 ack, .bool false, .int .i64 0, .int .i64 0, .slice none 0 0, .int .i64 0] 29)).heap.size = A3.heap.size + 1 := by simp
  have e1 : A.heap.size = w.heap.size + 1 := z1
  have e2 : A2.heap.size = w.heap.size + 1 + 1 := by rw [z2, z1]
  have e3 : A3.heap.size = w.heap.size + 1 + 1 + 1 := by rw [z3, e2]
  rw [e1] at x2
  rw [e2] at x3
  rw [e3] at x4
  refine ⟨?_, (x2.later a3).later a4, (a4.block _ (by omega)).trans x3, x4, ((a1.trans (a2.mono (by omega))).trans (a3.mono (by omega))).trans (a4.mono (by omega)), by rw [z4, e3]⟩
  exact (a4.block _ (by omega)).trans ((a3.block _ (by omega)).trans ((a2.block _ (by omega)).trans x1))
theorem Boot.ls {w W4 W5 : World} {nxt ack : Int} (m : Boot w nxt ack W4) {Bl Bn : Nat} {a : Option Addr} {n cap : Nat} {l : List Bk} (hrd : Rd W5 Bl Bn ack a n cap l) (hb : Below W4.heap.size W4 W5) :
    LS w W5.heap.size (w.heap.size + 1) (w.heap.size + 1 + 1) w.heap.size (w.heap.size + 1 + 1 + 1) Bl Bn ack nxt a n cap ⟨ack, false, (0, 0), [], 0⟩ (.slice none 0 0) W5 :=
  ⟨hrd.bl, hrd.bn, (hb.block _ (lt_of_block m.ba)).trans m.ba, (hb.block _ (lt_of_block m.bx)).trans m.bx, m.res.later hb, m.at_.later hb, World.ownsRow_nil _ _ _ _, m.below.trans (hb.mono m.below.size), Nat.le_refl _⟩
theorem Boot.ld {w W4 W5 : World} {nxt ack : Int} (m : Boot w nxt ack W4) {Bl Bn : Nat} {a : Option Addr} {n cap : Nat} {l : List Bk} (hrd : Rd W5 Bl Bn ack a n cap l) (hb : Below W4.heap.size W4 W5) (h1 : W4.heap.size ≤ Bl) (h2 : W4.heap.size ≤ Bn) :
    LD w W5.heap.size (w.heap.size + 1) (w.heap.size + 1 + 1) w.heap.size (w.heap.size + 1 + 1 + 1) Bl Bn := by
  have := m.size
  have := hb.size
  have := lt_of_block hrd.bl
  have := lt_of_block hrd.bn
  exact ⟨by omega, by omega, by omega⟩

set_option maxRecDepth 100000 in
set_option maxHeartbeats 6400000 in
theorem look_any (una nxt num : Int) (a : Option Addr) (n cap : Nat) (l : List Bk) (w : World) (hu : -9223372036854775808 ≤ una ∧ una ≤ 9223372036854775807) (hn : -9223372036854775808 ≤ nxt ∧ nxt ≤ 9223372036854775807) (hm : 0 ≤ num ∧ num ≤ 4294967295) (hl : SlB w a n cap l) (hbig : n ≤ 1000000000) :
    Calls Try.prog 8 #[.int .i64 una, .int .i64 nxt, .int .u32 num, .slice a n cap] w (LookP (lookP una nxt num l) (errP una nxt num) w) := by
  have HN := Lib.hid (fun W => number_any una nxt num W hu hn hm)
  by_cases he : errP una nxt num = 0
  · have hcs : 0 ≤ runw una num ∧ runw una num ≤ 4611686018427387904 := by
      rcases err_cases una nxt num with ⟨h, _⟩ | ⟨_, ⟨h, _⟩ | ⟨h1, h2, _⟩⟩
      · omega
      · omega
      · exact ⟨h1, h2⟩
    have HE := Lib.hid (tK_end una nxt num l he)
    have hP : numP una nxt num = runw una num := by unfold numP; rw [if_pos he]
    rw [hP, he] at HN
    rw [he]
    generalize lookP una nxt num l = tE at *
    generalize runw una num = ack at *
    obtain ⟨k0, k1⟩ := hcs
    clear hP he
    have hlen := hl.len
    have hkk : -9223372036854775808 ≤ ack ∧ ack ≤ 9223372036854775807 := by omega
    have m4 := boot_any w nxt ack
    have HN2 := Lib.hid (fun W (hW : Below w.heap.size w W) => next_any ack a n cap l W (hl.later hW) hkk)
    have dn : Hid (dupB ack nxt l = true → 1 ≤ n) := Lib.hid (fun h => by
      rcases dup_cases ack nxt l with ⟨_, h2⟩ | ⟨_, _, _, b, r, rfl, _⟩
      · rw [h] at h2; cases h2
      · rw [← hlen]; simp)
    go_enter Try.func8, Try.ntmps8
    go_wp2_with fail
    refine (HN.out _).mono ?_
    rintro e w' ⟨rfl, rfl⟩
    clear HN
    go_wp2_with fail
    generalize (((w.alloc (.cells #[.int .i64 nxt] 3)).alloc (.cells #[.int .i64 0, .bool false, .int .i64 0, .int .i64 0, .slice none 0 0, .int .i64 0] 29)).alloc (.cells #[.int .i64 ack] 3)).alloc (.cells #[.int .i64 ack, .bool false, .int .i64 0, .int .i64 0, .slice none 0 0, .int .i64 0] 29) = W4 at *
    refine (HN2.out _ m4.below).mono ?_
    rintro e W5 ⟨Bl, Bn, rfl, hrd, hb5, hBl, hBn⟩
    clear HN2
    have h5 := m4.ls hrd hb5
    have hD := m4.ld hrd hb5 hBl hBn
    have hZ := m4.size
    clear m4 hrd hb5 hBl hBn
    generalize hbase : W5.heap.size = base at *
    have HL := Lib.hid hl
    have HK := Lib.hid hkk
    have HD := Lib.hid hD
    clear hl hkk hlen hbase hD
    have H6 := Lib.hid (once_any (nxt := nxt) (h5.rd HL.out HK.out))
    have c2 := h5.cba; have c3 := h5.cbx
    go_wp2_with fail
    refine (H6.out).mono ?_
    rintro e W6 ⟨rfl, h6⟩
    have h6' := h5.later h6
    clear h5 h6 c2 c3 H6
    have c1 := h6'.at_.c1; have c2 := h6'.at_.c2; have c3 := h6'.at_.c3; have f1 := h6'.at_.fz 1; have f2 := h6'.at_.fz 2; have f3 := h6'.at_.fz 3
    have HT := Lib.hid (fun o => tK_start ack nxt l o)
    generalize dupB ack nxt l = db at *
    generalize dupP ack nxt l = dp at *
    obtain ⟨o, hO⟩ : ∃ o : Nat, o = if db = true then 1 else 0 := ⟨_, rfl⟩
    rw [← hO] at HE
    have h7 := ((h6'.put HD.out 2 (.int .i64 dp.1) (t' := ⟨ack, false, (dp.1, 0), [], 0⟩) ((heap_setCell_same _ _ 2 _ _ _ h6'.at_).trans rfl) rfl).put HD.out 3 (.int .i64 dp.2) (t' := ⟨ack, false, dp, [], 0⟩) ((heap_setCell_same _ _ 3 _ _ _ ((heap_setCell_same _ _ 2 _ _ _ h6'.at_).trans rfl)).trans rfl) rfl)
    have h8 := h7.put HD.out 1 (.bool db) (t' := ⟨ack, db, dp, [], 0⟩) (h7.at_.s1 db) rfl
    have hdn : o ≤ n := by
      cases db with
      | false => simp at hO; omega
      | true => simp at hO; have := dn.out rfl; omega
    have HO := Lib.hid hO
    have H8 : Hid (db = false → LS w base (w.heap.size + 1) (w.heap.size + 1 + 1) w.heap.size (w.heap.size + 1 + 1 + 1) Bl Bn ack nxt a n cap (tK ack nxt l o o) (.slice none 0 0) _) := Lib.hid (fun e => by subst e; rw [HT.out o]; exact h7)
    rw [← HT.out o] at h8
    have H9 := Lib.hid h8
    clear hO HT dn h7 h8 h6'
    cases db
    all_goals
      go_wp2_with fail
      generalize hR : w.heap.size + 1 = R at *
      generalize hBa : R + 1 = Ba at *
      generalize hT : Ba + 1 = T at *
      generalize hBx : w.heap.size = Bx at *
      clear hR hBa hT hBx
      clear c1 c2 c3 f1 f2 f3
      go_loopw [16] (fun i wr => ∃ (k : Nat) (v : Value), o ≤ k ∧ k ≤ n ∧ i = .int .i64 k ∧ LS w base R Ba Bx T Bl Bn ack nxt a n cap (tK ack nxt l o k) v wr) (fun i _ => n - (intOf i).toNat)
      case atStart =>
        first
          | exact ⟨o, _, Nat.le_refl _, hdn, by rw [HO.out]; rfl, H8.out rfl⟩
          | exact ⟨o, _, Nat.le_refl _, hdn, by rw [HO.out]; rfl, H9.out⟩
      case round =>
        clear H8 H9 HO
        obtain ⟨k, v, hko, hk, rfl, hK⟩ := hrel
        obtain ⟨wo, rfl⟩ : ∃ wo : World, wo = wr := ⟨_, rfl⟩
        have hlen := HL.out.len
        by_cases hkn : k < n
        · have hR := read_any (hK.rd HL.out HK.out) k (by omega)
          have hrd : rd ack l k = frm ack (l.getD k (0, 0)) ∧ rdB ack l k = frmB ack (l.getD k (0, 0)) := by unfold rd rdB; rw [if_pos (by omega), if_pos (by omega)]; exact ⟨rfl, rfl⟩
          rw [hrd.1, hrd.2] at hR
          have hY := fun h => @tK_yes ack nxt l o k hko (by omega) h
          have hNo := fun h => @tK_no ack nxt l o k hko (by omega) h
          obtain ⟨bd1, bd2, bd3⟩ := tK_bd ack nxt l o k
          have hsb : frmB ack (l.getD k (0, 0)) = decide ((frm ack (l.getD k (0, 0))).1 < (frm ack (l.getD k (0, 0))).2) := rfl
          generalize frm ack (l.getD k (0, 0)) = s at *
          generalize frmB ack (l.getD k (0, 0)) = sb at *
          generalize tK ack nxt l o k = t at *
          have HR := Lib.hid hR
          have HY := Lib.hid hY
          have HNo := Lib.hid hNo
          have HSB := Lib.hid hsb
          clear hR hY hNo hsb hrd hlen
          go_wp2_with fail
          refine (show Calls Try.prog 31 _ wo _ from HR.out).mono ?_
          rintro e W8 ⟨rfl, h8⟩
          have K9 := (hK.later h8).later (bal (.cells #[.int .i64 s.1, .int .i64 s.2] 26))
          have x9 := sp_new W8 s
          have x0 := x9.c0; have x1 := x9.c1
          clear hK h8 HR
          cases sb with
          | false =>
            have hno : isS ack nxt s = false := by unfold isS; rw [← HSB.out]; rfl
            have H := Lib.hid (HNo.out hno)
            have g5 := K9.at_.c5; have f5 := K9.at_.fz 5
            have HK9 := Lib.hid (K9.put HD.out 5 (.int .i64 (t.bad + 1)) (K9.at_.s5 _) rfl)
            clear HY HNo HSB hno K9 x9
            go_wp2_with fail
            go_roundw
            case rel => exact ⟨k + 1, v, by omega, by omega, by go_num, by rw [H.out]; exact HK9.out⟩
            case measure => simp [intOf]; omega
          | true =>
            have hF := fits_any s ack nxt _ Ba Bx K9.cba K9.cbx
            have hIS : isS ack nxt s = (decide (ack < s.1) && decide (s.2 ≤ nxt)) := by unfold isS; rw [← HSB.out, Bool.true_and]
            generalize (decide (ack < s.1) && decide (s.2 ≤ nxt)) = q at *
            have HF := Lib.hid hF
            have HIS := Lib.hid hIS
            clear hF hIS HSB
            go_wp2_with fail
            refine (show Calls Try.prog 20 _ _ _ from HF.out).mono ?_
            rintro e W10 ⟨rfl, h10⟩
            have K10 := K9.later h10
            have x10 := x9.later h10
            clear HF K9 x9 h10 x0 x1
            generalize W8.heap.size = X at *
            cases q with
            | false =>
              have H := Lib.hid (HNo.out HIS.out)
              have g5 := K10.at_.c5; have f5 := K10.at_.fz 5
              have HK9 := Lib.hid (K10.put HD.out 5 (.int .i64 (t.bad + 1)) (K10.at_.s5 _) rfl)
              clear HY HNo HIS K10 x10
              go_wp2_with fail
              go_roundw
              case rel => exact ⟨k + 1, v, by omega, by omega, by go_num, by rw [H.out]; exact HK9.out⟩
              case measure => simp [intOf]; omega
            | true =>
              have H := Lib.hid (HY.out HIS.out)
              obtain ⟨i0, hi, hz0, hz1, hz2⟩ := info_split info_span
              have K11 := K10.later (bal (.cells #[.int .i64 s.1, .int .i64 s.2] 26))
              have HSRC := Lib.hid (span_src W10 s)
              have HOWN := Lib.hid K11.own
              have hbb := K11.hb
              have x0 := x10.c0; have x1 := x10.c1
              have g4 := K10.at_.c4
              have n4 := K10.at_.lt
              have HK := Lib.hid K11
              clear HY HNo HIS x10 K10 K11
              go_wp2_with (at_builtin; refine wpList_append_sz _ rfl (.tmp 67) (.tmp 69) 27 27 rfl base 26 i0 (.agg #[.int .i64 0, .int .i64 0]) 2 16 Try.underlying27 hi hz0 hz1 (by decide) hz2 rfl v t.sacks.length (spCells t.sacks) rfl HOWN.out _ rfl 1 [.int .i64 s.1, .int .i64 s.2] HSRC.out (by unfold maxLen; omega) (by omega) hbb ?_; intro a' cap' w1 ho hg hw; have hL := HK.out.app HD.out ho hg hw; have hT4 := HK.out.app4 HD.out ho hg; have g5 := hT4.c4; have g6 := hT4.fz 4; have HLL := Lib.hid hL; clear hL hT4 ho hg hw HK HOWN HSRC)
              go_roundw
              case rel => exact ⟨k + 1, _, by omega, by omega, by go_num, by rw [H.out]; exact HLL.out⟩
              case measure => simp [intOf]; omega
        · have hkE : k = n := by omega
          subst hkE
          have H : tK ack nxt l o k = tE := by rw [← HE.out, hlen]
          rw [H] at hK
          obtain ⟨va, vc, rfl⟩ := own_form hK.own
          obtain ⟨hA, hB⟩ := hK.done HD.out
          have c0 := hK.at_.c0; have c1 := hK.at_.c1; have c2 := hK.at_.c2; have c3 := hK.at_.c3; have c4 := hK.at_.c4; have c5 := hK.at_.c5
          have f0 := hK.res.fz 0; have f1 := hK.res.fz 1; have f2 := hK.res.fz 2; have f3 := hK.res.fz 3; have f4 := hK.res.fz 4; have f5 := hK.res.fz 5
          have d0 := hK.res.c0; have d1 := hK.res.c1; have d2 := hK.res.c2; have d3 := hK.res.c3; have d4 := hK.res.c4; have d5 := hK.res.c5
          have HA := Lib.hid hA
          have HB := Lib.hid hB
          simp only [noTd] at d0 d1 d2 d3 d4 d5
          clear H hA hB hK hlen HE
          go_wp2_with fail
          have e0 := HA.out.c0; have e1 := HA.out.c1; have e2 := HA.out.c2; have e3 := HA.out.c3; have e4 := HA.out.c4; have e5 := HA.out.c5
          exact bodyPost_ret (v := .tuple #[tdV tE (.slice va tE.sacks.length vc), .int .i64 0]) (by simp [results, Try.results8, go_sem, e0, e1, e2, e3, e4, e5]) rfl HB.out
  · have hL : Hid (lookP una nxt num l = noTd) := Lib.hid (by unfold lookP; rw [if_neg he])
    have hP : numP una nxt num = 0 := by unfold numP; rw [if_neg he]
    rw [hP] at HN
    rw [hL.out]
    generalize errP una nxt num = c at *
    have hc : decide (c = 0) = false := by simpa using he
    have hc2 : (c == 0) = false := by simpa using he
    clear hP hL
    have b1 := bal (w := w) (.cells #[.int .i64 nxt] 3)
    have r1 := td_new 29 (w.alloc (.cells #[.int .i64 nxt] 3)) noTd (.slice none 0 0)
    simp only [World.size_alloc, noTd] at r1
    have b2 := (b1.alloc b1.size (.cells #[.int .i64 0, .bool false, .int .i64 0, .int .i64 0, .slice none 0 0, .int .i64 0] 29))
    have b3 := b2.alloc b2.size (.cells #[.int .i64 0] 3)
    have r3 := r1.later (bal (.cells #[.int .i64 0] 3))
    have HF := Lib.hid (show LookP noTd c w (.returned (.tuple #[tdV noTd (.slice none 0 0), .int .i64 c])) _ from ⟨_, rfl, World.ownsRow_nil _ _ _ _, b3⟩)
    have d0 := r3.c0; have d1 := r3.c1; have d2 := r3.c2; have d3 := r3.c3; have d4 := r3.c4; have d5 := r3.c5
    go_enter Try.func8, Try.ntmps8
    go_wp2_with fail
    refine (HN.out _).mono ?_
    rintro e w' ⟨rfl, rfl⟩
    go_wp2_with fail
    exact bodyPost_ret (v := .tuple #[tdV noTd (.slice none 0 0), .int .i64 c]) (by simp [results, Try.results8, go_sem, d0, d1, d2, d3, d4, d5, noTd]) rfl HF.out
end Go.Proofs.Ytegfmjkngbnnfaa.dp
