/-
  Package dup: the first block (onceMore), the number.
-/
import Derived.Test.YtegfmjkngbnnfaaDupR
namespace Go.Proofs.Ytegfmjkngbnnfaa.dp
open Go.RowKit aid mem sq sp
attribute [local go_sem ↓] Go.wp_at_zero Go.wp_at_succ
set_option linter.unusedVariables false

def dupC (ack nxt : Int) (l : List Bk) : Bool := rdB ack l 0 && (decide ((rd ack l 0).2 ≤ ack) || (decide ((rd ack l 0).2 ≤ nxt) && (rdB ack l 1 && holdsB (rd ack l 1) (rd ack l 0))))
theorem dup_of (ack nxt : Int) (l : List Bk) : (dupP ack nxt l = if dupC ack nxt l = true then rd ack l 0 else (0, 0)) ∧ dupB ack nxt l = dupC ack nxt l := by
  have key : dupP ack nxt l = if dupC ack nxt l = true then rd ack l 0 else (0, 0) := by
    match l with
    | [] => rfl
    | [b] =>
      unfold dupC
      rw [show rd ack [b] 0 = frm ack b from rfl, show rdB ack [b] 0 = frmB ack b from rfl, show rdB ack [b] 1 = false from rfl]
      simp only [Bool.false_and, Bool.and_false, Bool.or_false, dupP]
      rcases frm_cases ack b with ⟨h1, h2⟩ | ⟨_, _, _, h2⟩
      · rw [h1, h2]; simp
      · rw [h2]; simp
    | b :: c :: r =>
      unfold dupC
      rw [show rd ack (b :: c :: r) 0 = frm ack b from rfl, show rdB ack (b :: c :: r) 0 = frmB ack b from rfl, show rdB ack (b :: c :: r) 1 = frmB ack c from rfl, show rd ack (b :: c :: r) 1 = frm ack c from rfl]
      simp only [dupP]
      rcases frm_cases ack b with ⟨h1, h2⟩ | ⟨_, _, _, h2⟩
      · rw [h1, h2]; simp
      · rw [h2]
        by_cases h3 : (frm ack b).2 ≤ ack
        · simp [h3]
        · simp [h3]
  refine ⟨key, ?_⟩
  unfold dupB
  rw [key]
  by_cases h : dupC ack nxt l = true
  · rw [if_pos h, h]
    have h0 : rdB ack l 0 = true := by
      unfold dupC at h
      simp only [Bool.and_eq_true] at h
      exact h.1
    unfold rdB at h0
    unfold rd
    by_cases hl : 0 < l.length
    · rw [if_pos hl] at h0 ⊢
      exact h0
    · rw [if_neg hl] at h0; cases h0
  · rw [if_neg h, Bool.not_eq_true] at *
    rw [h]; rfl

theorem eg_read (args : Array Value) (w : World) : (callFunc 31 args).run Try.prog w = .ok (.enter 31 args) w := by kernel_rfl

set_option maxHeartbeats 1600000 in
theorem within_any {w : World} {Bl Bn Br Bf : Nat} {near : Int} {a : Option Addr} {n cap : Nat} {l : List Bk} {s : Int × Int} (h : Rd w Bl Bn near a n cap l)
    (hr : w.cell? ⟨Br, 0, none⟩ = some (rdF Bl Bn)) (hs : SpAt w Bf s) :
    Calls Try.prog 33 #[.pointer (some ⟨Br, 0, none⟩), .pointer (some ⟨Bf, 0, none⟩)] w (RetB (rdB near l 1 && holdsB (rd near l 1) s) w) := by
  have hR := read_any h 1 (by omega)
  have hHo := holds_any (rd near l 1) s
  generalize rd near l 1 = t at *
  generalize rdB near l 1 = tb at *
  have HR := Lib.hid hR
  have HS := Lib.hid hs
  have HH := Lib.hid hHo
  have lf := hs.lt
  clear hR hHo hs h
  go_enter Try.func33, Try.ntmps33
  go_wp2_with fail
  refine (show Calls Try.prog 31 _ w _ from HR.out).mono ?_
  rintro e w2 ⟨rfl, h2⟩
  have s2 := HS.out.later h2
  have s3 := s2.later (bal (.cells #[.int .i64 t.1, .int .i64 t.2] 26))
  have t3 := sp_new w2 t
  have c0 := s3.c0; have c1 := s3.c1; have d0 := t3.c0; have d1 := t3.c1
  have b3 := h2.trans ((bal (w := w2) (.cells #[.int .i64 t.1, .int .i64 t.2] 26)).mono h2.size)
  clear HR HS s2 s3 t3
  cases tb with
  | false =>
    go_wp2_with fail
    go_ret
    exact ⟨rfl, b3⟩
  | true =>
    go_wp2_with fail
    refine (HH.out _).mono ?_
    rintro e w4 ⟨rfl, h4⟩
    go_wp2_with fail
    go_ret
    exact ⟨rfl, b3.trans (h4.mono b3.size)⟩

set_option maxHeartbeats 1600000 in
theorem once_any {w : World} {Bl Bn : Nat} {ack nxt : Int} {a : Option Addr} {n cap : Nat} {l : List Bk} (h : Rd w Bl Bn ack a n cap l) :
    Calls Try.prog 19 #[rdF Bl Bn, .int .i64 ack, .int .i64 nxt] w (RetT (dupP ack nxt l) (dupB ack nxt l) w) := by
  obtain ⟨hd1, hd2⟩ := dup_of ack nxt l
  have HD := Lib.hid hd1
  have HD2 := Lib.hid hd2
  have HC : Hid (dupC ack nxt l = (rdB ack l 0 && (decide ((rd ack l 0).2 ≤ ack) || (decide ((rd ack l 0).2 ≤ nxt) && (rdB ack l 1 && holdsB (rd ack l 1) (rd ack l 0)))))) := Lib.hid rfl
  have b1 := bal (w := w) (.cells #[rdF Bl Bn] 51)
  have b2 := b1.alloc b1.size (.cells #[.int .i64 0, .int .i64 0] 26)
  have hA := (h.later b1).later (bal (.cells #[.int .i64 0, .int .i64 0] 26))
  have q0 : ((w.alloc (.cells #[rdF Bl Bn] 51)).alloc (.cells #[.int .i64 0, .int .i64 0] 26)).heap[w.heap.size]? = some (.cells #[rdF Bl Bn] 51 (0, 0)) :=
    ((bal (w := w.alloc (.cells #[rdF Bl Bn] 51)) (.cells #[.int .i64 0, .int .i64 0] 26)).block _ (by simp)).trans (heap_alloc_new w _)
  have s0 := sp_new (w.alloc (.cells #[rdF Bl Bn] 51)) (0, 0)
  simp only [World.size_alloc] at s0
  have hR := read_any hA 0 (by omega)
  have HI := Lib.hid (fun W' W'' (hb : Below _ W' W'') (hr : W''.cell? ⟨w.heap.size, 0, none⟩ = some (rdF Bl Bn)) Bf (hs : SpAt W'' Bf (rd ack l 0)) (hA : Rd W' Bl Bn ack a n cap l) => within_any (hA.later hb) hr hs)
  generalize rd ack l 0 = s at *
  generalize rdB ack l 0 = sb at *
  generalize (rdB ack l 1 && holdsB (rd ack l 1) s) = ib at *
  generalize dupP ack nxt l = dp at *
  generalize dupB ack nxt l = db at *
  have HR := Lib.hid hR
  have HA := Lib.hid hA
  have r0 := (cell_of_row _ _ 0 _ _ (0, 0) q0).trans rfl
  clear hd1 hd2 hR hA h
  go_enter Try.func19, Try.ntmps19
  go_wp2_with fail
  generalize (w.alloc (.cells #[rdF Bl Bn] 51)).alloc (.cells #[.int .i64 0, .int .i64 0] 26) = W at *
  refine (show Calls Try.prog 31 _ W _ from HR.out).mono ?_
  rintro e w2 ⟨rfl, h2⟩
  have b23 := h2.trans ((bal (w := w2) (.cells #[.int .i64 s.1, .int .i64 s.2] 26)).mono h2.size)
  have s3 := s0.later b23
  have f3 := sp_new w2 s
  have r3 := (b23.cell (p := ⟨w.heap.size, 0, none⟩) (World.block_lt_of_cell? W _ r0)).trans r0
  have HW := Lib.hid (HI.out W _ b23 r3 _ f3 HA.out)
  have bb := b2.trans (b23.mono b2.size)
  have hlt := lt_of_block f3
  have hl1 := s0.lt
  have hsz := h2.size
  clear HR HA HI q0 s0 r0 b1
  have hBs := bb.size
  generalize hB : w.heap.size = B at *
  have HB := Lib.hid hB
  clear hB
  have s3z := s3.put 0 0
  have bz := bb.trans ((kput (w2.alloc (.cells #[.int .i64 s.1, .int .i64 s.2] 26)) (B + 1) (.int .i64 0) (.int .i64 0)).below (B := B) (by simp) hBs)
  have e0 := f3.c0; have e1 := f3.c1
  have g0 := s3.c0; have g1 := s3.c1; have g2 := s3.f0; have g3 := s3.f1
  cases sb with
  | false =>
    have H : Hid (dp = (0, 0) ∧ db = false) := Lib.hid (by rw [HD.out, HD2.out, HC.out]; simp)
    go_wp2_with fail
    have g0 := s3z.c0; have g1 := s3z.c1
    refine bodyPost_ret (v := .tuple #[spV (0, 0), .bool false]) (by simp [results, Try.results19, go_sem, g0, g1]) rfl ?_
    rw [H.out.1, H.out.2]
    exact ⟨rfl, HB.out ▸ bz⟩
  | true =>
    have s4 := s3.put s.1 s.2
    have b4 := bb.trans ((kput (w2.alloc (.cells #[.int .i64 s.1, .int .i64 s.2] 26)) (B + 1) (.int .i64 s.1) (.int .i64 s.2)).below (B := B) (by simp) hBs)
    by_cases h1 : s.2 ≤ ack
    · have H : Hid (dp = s ∧ db = true) := Lib.hid (by rw [HD.out, HD2.out, HC.out]; simp [h1])
      go_wp2_with fail
      have g0 := s4.c0; have g1 := s4.c1
      refine bodyPost_ret (v := .tuple #[spV s, .bool true]) (by simp [results, Try.results19, go_sem, g0, g1]) rfl ?_
      rw [H.out.1, H.out.2]
      exact ⟨rfl, HB.out ▸ b4⟩
    · by_cases h2' : s.2 ≤ nxt
      · have HQ : Hid (dp = (if ib = true then s else (0, 0)) ∧ db = ib) := Lib.hid (by rw [HD.out, HD2.out, HC.out]; simp [h1, h2'])
        clear HC HD HD2
        go_wp2_with fail
        refine (HW.out).mono ?_
        rintro e w5 ⟨rfl, h5⟩
        have s5 := s3.later h5
        have f5 := f3.later h5
        have b5 := bb.trans (h5.mono hBs)
        have hB5 : B ≤ w5.heap.size := Nat.le_trans hBs h5.size
        have s5z := s5.put 0 0
        have b5z := b5.trans ((kput w5 (B + 1) (.int .i64 0) (.int .i64 0)).below (B := B) (by simp) hB5)
        have s6 := s5.put s.1 s.2
        have b6 := b5.trans ((kput w5 (B + 1) (.int .i64 s.1) (.int .i64 s.2)).below (B := B) (by simp) hB5)
        clear e0 e1 g0 g1 g2 g3
        have e0 := f5.c0; have e1 := f5.c1
        have g0 := s5.c0; have g1 := s5.c1; have g2 := s5.f0; have g3 := s5.f1
        cases ib with
        | false =>
          go_wp2_with fail
          have g0 := s5z.c0; have g1 := s5z.c1
          refine bodyPost_ret (v := .tuple #[spV (0, 0), .bool false]) (by simp [results, Try.results19, go_sem, g0, g1]) rfl ?_
          rw [HQ.out.1, HQ.out.2]
          exact ⟨rfl, HB.out ▸ b5z⟩
        | true =>
          go_wp2_with fail
          have g0 := s6.c0; have g1 := s6.c1
          refine bodyPost_ret (v := .tuple #[spV s, .bool true]) (by simp [results, Try.results19, go_sem, g0, g1]) rfl ?_
          rw [HQ.out.1, HQ.out.2]
          exact ⟨rfl, HB.out ▸ b6⟩
      · have H : Hid (dp = (0, 0) ∧ db = false) := Lib.hid (by rw [HD.out, HD2.out, HC.out]; simp [h1, h2'])
        go_wp2_with fail
        have g0 := s3z.c0; have g1 := s3z.c1
        refine bodyPost_ret (v := .tuple #[spV (0, 0), .bool false]) (by simp [results, Try.results19, go_sem, g0, g1]) rfl ?_
        rw [H.out.1, H.out.2]
        exact ⟨rfl, HB.out ▸ bz⟩

def numP (una nxt num : Int) : Int := if errP una nxt num = 0 then runw una num else 0
set_option maxHeartbeats 1600000 in
theorem number_any (una nxt num : Int) (w : World) (hu : -9223372036854775808 ≤ una ∧ una ≤ 9223372036854775807) (hn : -9223372036854775808 ≤ nxt ∧ nxt ≤ 9223372036854775807) (hm : 0 ≤ num ∧ num ≤ 4294967295) :
    Calls Try.prog 17 #[.int .i64 una, .int .i64 nxt, .int .u32 num] w fun e w' => e = .returned (.tuple #[.int .i64 (numP una nxt num), .int .i64 (errP una nxt num)]) ∧ w = w' := by
  have HU := Lib.hid (fun W => unwrap_any una num W hu hm)
  have HR := Lib.hid (runw_unw una num)
  have hub := unw_bd una num
  have HN : Hid (numP una nxt num = if errP una nxt num = 0 then runw una num else 0) := Lib.hid rfl
  obtain ⟨u, ok, huo⟩ : ∃ u ok, unw una num = (u, ok) := ⟨_, _, rfl⟩
  rw [huo] at HU HR hub
  simp only at HU HR hub
  obtain ⟨u0, u1⟩ := hub
  clear huo
  rcases err_cases una nxt num with ⟨he, h⟩ | ⟨⟨h1, h2, h3, h4⟩, ⟨he, h⟩ | ⟨h5, h6, h7, h⟩⟩
  · have H : Hid (numP una nxt num = 0 ∧ errP una nxt num = 3) := Lib.hid ⟨by rw [HN.out, he]; rfl, he⟩
    rw [H.out.1, H.out.2]
    rcases (show una < 0 ∨ (0 ≤ una ∧ 4611686018427387904 < nxt) ∨ (0 ≤ una ∧ nxt ≤ 4611686018427387904 ∧ nxt < una) ∨ (0 ≤ una ∧ nxt ≤ 4611686018427387904 ∧ una ≤ nxt ∧ 65536 < nxt - una) by omega) with k1 | ⟨k1, k2⟩ | ⟨k1, k2, k3⟩ | ⟨k1, k2, k3, k4⟩
    all_goals
      clear h he HR HN H
      go_enter Try.func17, Try.ntmps17
      go_wp2_with fail
      go_ret2
      exact ⟨rfl, rfl⟩
  · have H : Hid (numP una nxt num = 0 ∧ errP una nxt num = 11) := Lib.hid ⟨by rw [HN.out, he]; rfl, he⟩
    rw [H.out.1, H.out.2]
    cases ok with
    | false =>
      clear h he HR HN H
      go_enter Try.func17, Try.ntmps17
      go_wp2_with fail
      refine (HU.out _).mono ?_
      rintro e w' ⟨rfl, rfl⟩
      go_wp2_with fail
      go_ret2
      exact ⟨rfl, rfl⟩
    | true =>
      have hr : runw una num = u := by simpa using HR.out
      rw [hr] at h
      have h' : 65536 < una - u := by omega
      clear h he HR HN H hr
      go_enter Try.func17, Try.ntmps17
      go_wp2_with fail
      refine (HU.out _).mono ?_
      rintro e w' ⟨rfl, rfl⟩
      go_wp2_with fail
      go_ret2
      exact ⟨rfl, rfl⟩
  · cases ok with
    | false =>
      have hr : runw una num = -1 := by simpa using HR.out
      omega
    | true =>
      have hr : runw una num = u := by simpa using HR.out
      rw [hr] at h5 h6 h7 h
      rcases h with ⟨he, h⟩ | ⟨he, h⟩
      · have H : Hid (numP una nxt num = 0 ∧ errP una nxt num = 12) := Lib.hid ⟨by rw [HN.out, he]; rfl, he⟩
        rw [H.out.1, H.out.2]
        clear he HR HN H hr
        go_enter Try.func17, Try.ntmps17
        go_wp2_with fail
        refine (HU.out _).mono ?_
        rintro e w' ⟨rfl, rfl⟩
        go_wp2_with fail
        go_ret2
        exact ⟨rfl, rfl⟩
      · have H : Hid (numP una nxt num = u ∧ errP una nxt num = 0) := Lib.hid ⟨by rw [HN.out, he, hr]; rfl, he⟩
        rw [H.out.1, H.out.2]
        clear he HR HN H hr
        go_enter Try.func17, Try.ntmps17
        go_wp2_with fail
        refine (HU.out _).mono ?_
        rintro e w' ⟨rfl, rfl⟩
        go_wp2_with fail
        go_ret2
        exact ⟨rfl, rfl⟩

/-- where a block's span must lie -/
theorem fits_any (s : Int × Int) (ack nxt : Int) (w : World) (Ba Bx : Nat) (ha : w.cell? ⟨Ba, 0, none⟩ = some (.int .i64 ack)) (hx : w.cell? ⟨Bx, 0, none⟩ = some (.int .i64 nxt)) :
    Calls Try.prog 20 #[spV s, .pointer (some ⟨Ba, 0, none⟩), .pointer (some ⟨Bx, 0, none⟩)] w (RetB (decide (ack < s.1) && decide (s.2 ≤ nxt)) w) := by
  have b1 := bal (w := w) (.cells #[.int .i64 s.1, .int .i64 s.2] 26)
  have s0 := sp_new w s
  have d0 := (b1.cell (p := ⟨Ba, 0, none⟩) (World.block_lt_of_cell? w _ ha)).trans ha
  have d1 := (b1.cell (p := ⟨Bx, 0, none⟩) (World.block_lt_of_cell? w _ hx)).trans hx
  have c0 := s0.c0; have c1 := s0.c1
  clear ha hx
  go_enter Try.func20, Try.ntmps20
  go_wp2_with fail
  all_goals
    go_ret
    exact ⟨ret_b (by simp; omega), b1⟩
end Go.Proofs.Ytegfmjkngbnnfaa.dp
