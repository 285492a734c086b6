/-
  Package segment: Same, and the reference's.
-/
import Derived.Test.YtdfenlagokndkaaSegC
import Derived.Test.YtdfenlagokndkaaOptN
import Derived.Shelf.Bytes.SlEqualAll
namespace Go.Proofs.Ytdfenlagokndkaa.sg
open Go.RowKit aid mem oc op
set_option linter.unusedVariables false

theorem bytesOf_inj : ∀ (l r : List Int), Bd l → Bd r → Lib.bytesOf l = Lib.bytesOf r → l = r
  | [], [], _, _, _ => rfl
  | [], y :: r, _, _, h => by simp [Lib.bytesOf] at h
  | x :: l, [], _, _, h => by simp [Lib.bytesOf] at h
  | x :: l, y :: r, hl, hr, h => by
    simp only [Lib.bytesOf, List.map_cons, List.cons.injEq] at h
    have hx := hl x (by simp)
    have hy := hr y (by simp)
    have h1 : (UInt8.ofNat x.toNat).toNat = (UInt8.ofNat y.toNat).toNat := by rw [h.1]
    rw [UInt8.toNat_ofNat_of_lt' (by show x.toNat < 256; omega), UInt8.toNat_ofNat_of_lt' (by show y.toNat < 256; omega)] at h1
    rw [bytesOf_inj l r (fun z hz => hl z (by simp [hz])) (fun z hz => hr z (by simp [hz])) h.2]
    congr 1
    omega
theorem bytes_eq (l r : List Int) (hl : Bd l) (hr : Bd r) : (Lib.bytesOf l == Lib.bytesOf r) = decide (l = r) := by
  rw [Bool.eq_iff_iff]
  simp only [beq_iff_eq, decide_eq_true_eq]
  exact ⟨bytesOf_inj l r hl hr, fun h => by rw [h]⟩

theorem bytesIn_of {w : World} {a : Option Addr} {n cap : Nat} {l : List Int} (h : SlA .u8 w a n cap l) : Lib.BytesIn w a n l := fun h0 => by
  obtain ⟨b, off, ha, hc⟩ := h.cells (by have := h.le; omega)
  exact ⟨b, off, ha, hc⟩

set_option maxHeartbeats 800000 in
theorem equal_bytes (a b : Option Addr) (n c m d : Nat) (l r : List Int) (w : World) (hl : SlA .u8 w a n c l) (hr : SlA .u8 w b m d r) (bl : Bd l) (br : Bd r) :
    Calls Try.prog 63 #[.slice a n c, .slice b m d] w fun e w' => e = .returned (.bool (decide (l = r))) ∧ w = w' := by
  have k1 := (bytesIn_of hl).convert hl.len c 26 5 9 Try.underlying26 Try.underlying5 Try.underlying9
  have k2 := (bytesIn_of hr).convert hr.len d 26 5 9 Try.underlying26 Try.underlying5 Try.underlying9
  have HE := bytes_eq l r bl br
  rw [← Lib.strOfNums_toList, ← Lib.strOfNums_toList] at HE
  have HEE := Lib.hid HE
  clear HE hl hr
  generalize strOfNums l = sl at *
  generalize strOfNums r = sr at *
  go_enter Try.func63, Try.ntmps63
  go_wp2
  go_ret
  exact ⟨ret_b HEE.out, rfl⟩

def RetQB (b : Bool) (w : World) (e : Ending) (w' : World) : Prop := e = .returned (.bool b) ∧ Below w.heap.size w w'
theorem below_q {w : World} (q : Nat) : Below w.heap.size w (w.drewN q) := below_drewN (Below.refl _ _) q

set_option maxRecDepth 100000 in
set_option maxHeartbeats 1600000 in
theorem same_bytes (a b : Option Addr) (n c m d : Nat) (l r : List Int) (w : World) (hl : SlA .u8 w a n c l) (hr : SlA .u8 w b m d r) :
    Calls Try.prog 15 #[.slice a n c, .slice b m d] w (RetQB (decide (l = r)) w) := by
  have l1 := hl.len
  have l2 := hr.len
  have hmo := hl.most
  have hle := hl.le
  have hmo2 := hr.most
  have hle2 := hr.le
  unfold maxLen at hmo hmo2
  by_cases hnm : n = m
  · subst hnm
    by_cases hn : n = 0
    · subst hn
      obtain rfl := List.eq_nil_of_length_eq_zero l1
      obtain rfl := List.eq_nil_of_length_eq_zero l2
      go_enter Try.func15, Try.ntmps15
      go_wp2
      go_loop [5] (fun i => i = .int .i64 0) (fun _ => 0)
      case atStart => rfl
      case round =>
        obtain rfl := hrel
        go_wp2
        go_ret
        exact ⟨by simp, Below.refl _ _⟩
    · obtain ⟨b1, o1, rfl, hc1⟩ := hl.cells (by omega)
      obtain ⟨b2, o2, rfl, hc2⟩ := hr.cells (by omega)
      have H1 := Lib.hid hc1
      have H2 := Lib.hid hc2
      have L1 := Lib.hid l1
      have L2 := Lib.hid l2
      clear hc1 hc2 l1 l2 hl hr
      go_enter Try.func15, Try.ntmps15
      go_wp2
      go_loopw [5] (fun i wr => ∃ k : Nat, k ≤ n ∧ i = .int .i64 k ∧ Hid (l.take k = r.take k) ∧ ∃ q, wr = w.drewN q) (fun i _ => n - (intOf i).toNat)
      case atStart => exact ⟨0, Nat.zero_le _, rfl, Lib.hid rfl, 0, rfl⟩
      case round =>
        obtain ⟨k, hk, rfl, HT, q, rfl⟩ := hrel
        have hk0 : (0 : Int) ≤ (k : Int) := by omega
        by_cases hlt : k < n
        · have g1 := H1.out k hlt
          have g2 := H2.out k hlt
          have hk1 : (k : Int) < (n : Int) := by omega
          have t1 := Lib.hid (oc.take_snoc l 0 k (by rw [L1.out]; exact hlt))
          have t2 := Lib.hid (oc.take_snoc r 0 k (by rw [L2.out]; exact hlt))
          have X1 : Hid (l[k]? = some (l.getD k 0)) := Lib.hid (by simp [List.getD, L1.out, hlt])
          have X2 : Hid (r[k]? = some (r.getD k 0)) := Lib.hid (by simp [List.getD, L2.out, hlt])
          generalize l.getD k 0 = x at *
          generalize r.getD k 0 = y at *
          by_cases hxy : x = y
          · subst hxy
            go_wp2_with fail
            go_quiet (fail)
            go_wp2
            go_roundw
            case rel => exact ⟨k + 1, by omega, by go_num, Lib.hid (by rw [t1.out, t2.out, HT.out]), _, rfl⟩
            case measure => simp [intOf]; omega
          · have hne : Hid (l ≠ r) := Lib.hid (fun e => hxy (by have h1 := X1.out; have h2 := X2.out; rw [e] at h1; rw [h1] at h2; injection h2))
            have hxy1 : (x != y) = true := by simpa using hxy
            clear hxy
            go_wp2_with fail
            go_quiet (fail)
            go_wp2
            go_ret
            exact ⟨ret_b (decide_eq_false hne.out).symm, below_drewN (below_drewN (Below.refl _ _) _) _⟩
        · have he : Hid (l = r) := Lib.hid (by
            have h := HT.out
            rwa [List.take_of_length_le (by have := L1.out; omega), List.take_of_length_le (by have := L2.out; omega)] at h)
          go_wp2
          go_ret
          exact ⟨ret_b (decide_eq_true he.out).symm, below_q _⟩
  · have hne : Hid (l ≠ r) := Lib.hid (fun e => hnm (by rw [← l1, ← l2, e]))
    have hnm1 : ((n : Int) != (m : Int)) = true := by simp; omega
    have hnm2 : (n != m) = true := by simpa using hnm
    clear hnm l1 l2 hl hr
    go_enter Try.func15, Try.ntmps15
    go_wp2
    go_ret
    exact ⟨ret_b (decide_eq_false hne.out).symm, Below.refl _ _⟩

/-- the same, field by field -/
def segSame (s t : Seg) : Bool := s.kind == t.kind && (s.num == t.num && (sameB s.o t.o && decide (s.body = t.body)))
theorem segSame_self (s : Seg) : segSame s s = true := by simp [segSame, sameB_self]

/-- two segments side by side -/
structure S2 (w0 : World) (B : Nat) (s : Seg) (a : Option Addr) (n cap : Nat) (b : Option Addr) (m bc : Nat) (t : Seg) (a' : Option Addr) (n' cap' : Nat) (b' : Option Addr) (m' bc' : Nat) (w : World) : Prop where
  s : SM w0 B s a n cap b m bc w
  t : SM w0 (B + 1) t a' n' cap' b' m' bc' w
theorem S2.later {w0 : World} {B : Nat} {s : Seg} {a : Option Addr} {n cap : Nat} {b : Option Addr} {m bc : Nat} {t : Seg} {a' : Option Addr} {n' cap' : Nat} {b' : Option Addr} {m' bc' : Nat} {w w' : World} (h : S2 w0 B s a n cap b m bc t a' n' cap' b' m' bc' w) (hb : Below w.heap.size w w') : S2 w0 B s a n cap b m bc t a' n' cap' b' m' bc' w' := ⟨h.s.later hb, h.t.later hb⟩
theorem s2_new (w : World) (s : Seg) (a : Option Addr) (n cap : Nat) (b : Option Addr) (m bc : Nat) (t : Seg) (a' : Option Addr) (n' cap' : Nat) (b' : Option Addr) (m' bc' : Nat) (hl : BlA w a n cap s.o.bl) (hb : SlA .u8 w b m bc s.body) (hl' : BlA w a' n' cap' t.o.bl) (hb' : SlA .u8 w b' m' bc' t.body) :
    S2 w w.heap.size s a n cap b m bc t a' n' cap' b' m' bc' ((w.alloc (.cells #[.int .i64 s.kind, .int .u32 s.num, .int .i64 s.o.mss, .bool s.o.permit, .bool s.o.ts, .int .u32 s.o.val, .int .u32 s.o.ecr, .bool s.o.hs, .int .i64 s.o.scale, .slice a n cap, .slice b m bc] 28)).alloc (.cells #[.int .i64 t.kind, .int .u32 t.num, .int .i64 t.o.mss, .bool t.o.permit, .bool t.o.ts, .int .u32 t.o.val, .int .u32 t.o.ecr, .bool t.o.hs, .int .i64 t.o.scale, .slice a' n' cap', .slice b' m' bc'] 28)) := by
  have h1 := (sm_new w s a n cap b m bc hl hb)
  have h2 := sm_new (w.alloc (.cells #[.int .i64 s.kind, .int .u32 s.num, .int .i64 s.o.mss, .bool s.o.permit, .bool s.o.ts, .int .u32 s.o.val, .int .u32 s.o.ecr, .bool s.o.hs, .int .i64 s.o.scale, .slice a n cap, .slice b m bc] 28)) t a' n' cap' b' m' bc' (hl'.later (bal _)) (hb'.later (bal _))
  exact ⟨h1.later (bal _), by simpa using h2.at_, h2.bl, h2.body, (bal _).alloc (bal _).size _⟩

set_option maxRecDepth 100000 in
set_option maxHeartbeats 3200000 in
theorem ssame_any (s t : Seg) (a : Option Addr) (n cap : Nat) (b : Option Addr) (m bc : Nat) (a' : Option Addr) (n' cap' : Nat) (b' : Option Addr) (m' bc' : Nat) (w : World) (hl : BlA w a n cap s.o.bl) (hb : SlA .u8 w b m bc s.body) (hl' : BlA w a' n' cap' t.o.bl) (hb' : SlA .u8 w b' m' bc' t.body) (bs : Bd s.body) (bt : Bd t.body) :
    Calls Try.prog 19 #[segV s a n cap b m bc, segV t a' n' cap' b' m' bc'] w (RetQB (segSame s t) w) := by
  have M0 := s2_new w s a n cap b m bc t a' n' cap' b' m' bc' hl hb hl' hb'
  have HBS := Lib.hid bs
  have HBT := Lib.hid bt
  have HS : Hid (segSame s t = (s.kind == t.kind && (s.num == t.num && (sameB s.o t.o && decide (s.body = t.body))))) := Lib.hid rfl
  clear hl hb hl' hb' bs bt
  cases h0 : (s.kind == t.kind) with
  | false =>
    go_enter Try.func19, Try.ntmps19
    go_wp2_with fail
    generalize (w.alloc (.cells #[.int .i64 s.kind, .int .u32 s.num, .int .i64 s.o.mss, .bool s.o.permit, .bool s.o.ts, .int .u32 s.o.val, .int .u32 s.o.ecr, .bool s.o.hs, .int .i64 s.o.scale, .slice a n cap, .slice b m bc] 28)).alloc (.cells #[.int .i64 t.kind, .int .u32 t.num, .int .i64 t.o.mss, .bool t.o.permit, .bool t.o.ts, .int .u32 t.o.val, .int .u32 t.o.ecr, .bool t.o.hs, .int .i64 t.o.scale, .slice a' n' cap', .slice b' m' bc'] 28) = W at *
    generalize w.heap.size = B at M0 ⊢
    have H : Hid (segSame s t = false) := Lib.hid (by rw [HS.out, h0]; rfl)
    obtain ⟨c0, c1, c2, c3, c4, c5, c6, c7, c8, c9, c10⟩ := M0.s.at_.cs
    obtain ⟨d0, d1, d2, d3, d4, d5, d6, d7, d8, d9, d10⟩ := M0.t.at_.cs
    go_wp2
    go_ret
    exact ⟨by rw [H.out]; rfl, M0.s.below⟩
  | true =>
    cases h1 : (s.num == t.num) with
    | false =>
      go_enter Try.func19, Try.ntmps19
      go_wp2_with fail
      generalize (w.alloc (.cells #[.int .i64 s.kind, .int .u32 s.num, .int .i64 s.o.mss, .bool s.o.permit, .bool s.o.ts, .int .u32 s.o.val, .int .u32 s.o.ecr, .bool s.o.hs, .int .i64 s.o.scale, .slice a n cap, .slice b m bc] 28)).alloc (.cells #[.int .i64 t.kind, .int .u32 t.num, .int .i64 t.o.mss, .bool t.o.permit, .bool t.o.ts, .int .u32 t.o.val, .int .u32 t.o.ecr, .bool t.o.hs, .int .i64 t.o.scale, .slice a' n' cap', .slice b' m' bc'] 28) = W at *
      generalize w.heap.size = B at M0 ⊢
      have H : Hid (segSame s t = false) := Lib.hid (by rw [HS.out, h0, h1]; rfl)
      obtain ⟨c0, c1, c2, c3, c4, c5, c6, c7, c8, c9, c10⟩ := M0.s.at_.cs
      obtain ⟨d0, d1, d2, d3, d4, d5, d6, d7, d8, d9, d10⟩ := M0.t.at_.cs
      go_wp2
      go_ret
      exact ⟨by rw [H.out]; rfl, M0.s.below⟩
    | true =>
      cases h2 : sameB s.o t.o with
      | false =>
        go_enter Try.func19, Try.ntmps19
        go_wp2_with fail
        generalize (w.alloc (.cells #[.int .i64 s.kind, .int .u32 s.num, .int .i64 s.o.mss, .bool s.o.permit, .bool s.o.ts, .int .u32 s.o.val, .int .u32 s.o.ecr, .bool s.o.hs, .int .i64 s.o.scale, .slice a n cap, .slice b m bc] 28)).alloc (.cells #[.int .i64 t.kind, .int .u32 t.num, .int .i64 t.o.mss, .bool t.o.permit, .bool t.o.ts, .int .u32 t.o.val, .int .u32 t.o.ecr, .bool t.o.hs, .int .i64 t.o.scale, .slice a' n' cap', .slice b' m' bc'] 28) = W at *
        generalize w.heap.size = B at M0 ⊢
        have H : Hid (segSame s t = false) := Lib.hid (by rw [HS.out, h0, h1, h2]; rfl)
        have HH2 := Lib.hid h2
        clear h2
        obtain ⟨c0, c1, c2, c3, c4, c5, c6, c7, c8, c9, c10⟩ := M0.s.at_.cs
        obtain ⟨d0, d1, d2, d3, d4, d5, d6, d7, d8, d9, d10⟩ := M0.t.at_.cs
        have HC := Lib.hid (same_any s.o t.o a a' n n' cap cap' W M0.s.bl M0.t.bl)
        unfold optCells at HC
        refine HC.out.mono ?_
        rintro e w1 ⟨rfl, k1⟩
        rw [HH2.out]
        have M1 := M0.later k1
        clear M0 k1
        clear c0 c1 c2 c3 c4 c5 c6 c7 c8 c9 c10 d0 d1 d2 d3 d4 d5 d6 d7 d8 d9 d10
        go_wp2
        go_ret
        exact ⟨by rw [H.out]; rfl, M1.s.below⟩
      | true =>
        cases h3 : decide (s.body = t.body) with
        | false =>
          go_enter Try.func19, Try.ntmps19
          go_wp2_with fail
          generalize (w.alloc (.cells #[.int .i64 s.kind, .int .u32 s.num, .int .i64 s.o.mss, .bool s.o.permit, .bool s.o.ts, .int .u32 s.o.val, .int .u32 s.o.ecr, .bool s.o.hs, .int .i64 s.o.scale, .slice a n cap, .slice b m bc] 28)).alloc (.cells #[.int .i64 t.kind, .int .u32 t.num, .int .i64 t.o.mss, .bool t.o.permit, .bool t.o.ts, .int .u32 t.o.val, .int .u32 t.o.ecr, .bool t.o.hs, .int .i64 t.o.scale, .slice a' n' cap', .slice b' m' bc'] 28) = W at *
          generalize w.heap.size = B at M0 ⊢
          have H : Hid (segSame s t = false) := Lib.hid (by rw [HS.out, h0, h1, h2, h3]; rfl)
          have HH2 := Lib.hid h2
          clear h2
          have HH3 := Lib.hid h3
          clear h3
          obtain ⟨c0, c1, c2, c3, c4, c5, c6, c7, c8, c9, c10⟩ := M0.s.at_.cs
          obtain ⟨d0, d1, d2, d3, d4, d5, d6, d7, d8, d9, d10⟩ := M0.t.at_.cs
          have HC := Lib.hid (same_any s.o t.o a a' n n' cap cap' W M0.s.bl M0.t.bl)
          unfold optCells at HC
          refine HC.out.mono ?_
          rintro e w1 ⟨rfl, k1⟩
          rw [HH2.out]
          have M1 := M0.later k1
          clear M0 k1
          clear c0 c1 c2 c3 c4 c5 c6 c7 c8 c9 c10 d0 d1 d2 d3 d4 d5 d6 d7 d8 d9 d10
          obtain ⟨c0, c1, c2, c3, c4, c5, c6, c7, c8, c9, c10⟩ := M1.s.at_.cs
          obtain ⟨d0, d1, d2, d3, d4, d5, d6, d7, d8, d9, d10⟩ := M1.t.at_.cs
          go_wp2_with fail
          refine (equal_bytes _ _ _ _ _ _ _ _ _ M1.s.body M1.t.body HBS.out HBT.out).mono ?_
          rintro e w2 ⟨rfl, rfl⟩
          have k2 := Below.refl w1.heap.size w1
          rw [HH3.out]
          have M2 := M1.later k2
          clear M1 k2
          clear c0 c1 c2 c3 c4 c5 c6 c7 c8 c9 c10 d0 d1 d2 d3 d4 d5 d6 d7 d8 d9 d10
          go_wp2
          go_ret
          exact ⟨by rw [H.out]; rfl, M2.s.below⟩
        | true =>
          go_enter Try.func19, Try.ntmps19
          go_wp2_with fail
          generalize (w.alloc (.cells #[.int .i64 s.kind, .int .u32 s.num, .int .i64 s.o.mss, .bool s.o.permit, .bool s.o.ts, .int .u32 s.o.val, .int .u32 s.o.ecr, .bool s.o.hs, .int .i64 s.o.scale, .slice a n cap, .slice b m bc] 28)).alloc (.cells #[.int .i64 t.kind, .int .u32 t.num, .int .i64 t.o.mss, .bool t.o.permit, .bool t.o.ts, .int .u32 t.o.val, .int .u32 t.o.ecr, .bool t.o.hs, .int .i64 t.o.scale, .slice a' n' cap', .slice b' m' bc'] 28) = W at *
          generalize w.heap.size = B at M0 ⊢
          have H : Hid (segSame s t = true) := Lib.hid (by rw [HS.out, h0, h1, h2, h3]; rfl)
          have HH2 := Lib.hid h2
          clear h2
          have HH3 := Lib.hid h3
          clear h3
          obtain ⟨c0, c1, c2, c3, c4, c5, c6, c7, c8, c9, c10⟩ := M0.s.at_.cs
          obtain ⟨d0, d1, d2, d3, d4, d5, d6, d7, d8, d9, d10⟩ := M0.t.at_.cs
          have HC := Lib.hid (same_any s.o t.o a a' n n' cap cap' W M0.s.bl M0.t.bl)
          unfold optCells at HC
          refine HC.out.mono ?_
          rintro e w1 ⟨rfl, k1⟩
          rw [HH2.out]
          have M1 := M0.later k1
          clear M0 k1
          clear c0 c1 c2 c3 c4 c5 c6 c7 c8 c9 c10 d0 d1 d2 d3 d4 d5 d6 d7 d8 d9 d10
          obtain ⟨c0, c1, c2, c3, c4, c5, c6, c7, c8, c9, c10⟩ := M1.s.at_.cs
          obtain ⟨d0, d1, d2, d3, d4, d5, d6, d7, d8, d9, d10⟩ := M1.t.at_.cs
          go_wp2_with fail
          refine (equal_bytes _ _ _ _ _ _ _ _ _ M1.s.body M1.t.body HBS.out HBT.out).mono ?_
          rintro e w2 ⟨rfl, rfl⟩
          have k2 := Below.refl w1.heap.size w1
          rw [HH3.out]
          have M2 := M1.later k2
          clear M1 k2
          clear c0 c1 c2 c3 c4 c5 c6 c7 c8 c9 c10 d0 d1 d2 d3 d4 d5 d6 d7 d8 d9 d10
          go_wp2
          go_ret
          exact ⟨by rw [H.out]; rfl, M2.s.below⟩

set_option maxRecDepth 100000 in
set_option maxHeartbeats 3200000 in
theorem rssame_any (s t : Seg) (a : Option Addr) (n cap : Nat) (b : Option Addr) (m bc : Nat) (a' : Option Addr) (n' cap' : Nat) (b' : Option Addr) (m' bc' : Nat) (w : World) (hl : BlA w a n cap s.o.bl) (hb : SlA .u8 w b m bc s.body) (hl' : BlA w a' n' cap' t.o.bl) (hb' : SlA .u8 w b' m' bc' t.body) (bs : Bd s.body) (bt : Bd t.body) :
    Calls Try.prog 20 #[segV s a n cap b m bc, segV t a' n' cap' b' m' bc'] w (RetQB (segSame s t) w) := by
  have M0 := s2_new w s a n cap b m bc t a' n' cap' b' m' bc' hl hb hl' hb'
  have HBS := Lib.hid bs
  have HBT := Lib.hid bt
  have HS : Hid (segSame s t = (s.kind == t.kind && (s.num == t.num && (sameB s.o t.o && decide (s.body = t.body))))) := Lib.hid rfl
  clear hl hb hl' hb' bs bt
  cases h0 : (s.kind == t.kind) with
  | false =>
    go_enter Try.func20, Try.ntmps20
    go_wp2_with fail
    generalize (w.alloc (.cells #[.int .i64 s.kind, .int .u32 s.num, .int .i64 s.o.mss, .bool s.o.permit, .bool s.o.ts, .int .u32 s.o.val, .int .u32 s.o.ecr, .bool s.o.hs, .int .i64 s.o.scale, .slice a n cap, .slice b m bc] 28)).alloc (.cells #[.int .i64 t.kind, .int .u32 t.num, .int .i64 t.o.mss, .bool t.o.permit, .bool t.o.ts, .int .u32 t.o.val, .int .u32 t.o.ecr, .bool t.o.hs, .int .i64 t.o.scale, .slice a' n' cap', .slice b' m' bc'] 28) = W at *
    generalize w.heap.size = B at M0 ⊢
    have H : Hid (segSame s t = false) := Lib.hid (by rw [HS.out, h0]; rfl)
    obtain ⟨c0, c1, c2, c3, c4, c5, c6, c7, c8, c9, c10⟩ := M0.s.at_.cs
    obtain ⟨d0, d1, d2, d3, d4, d5, d6, d7, d8, d9, d10⟩ := M0.t.at_.cs
    go_wp2
    go_ret
    exact ⟨by rw [H.out]; rfl, M0.s.below⟩
  | true =>
    cases h1 : (s.num == t.num) with
    | false =>
      go_enter Try.func20, Try.ntmps20
      go_wp2_with fail
      generalize (w.alloc (.cells #[.int .i64 s.kind, .int .u32 s.num, .int .i64 s.o.mss, .bool s.o.permit, .bool s.o.ts, .int .u32 s.o.val, .int .u32 s.o.ecr, .bool s.o.hs, .int .i64 s.o.scale, .slice a n cap, .slice b m bc] 28)).alloc (.cells #[.int .i64 t.kind, .int .u32 t.num, .int .i64 t.o.mss, .bool t.o.permit, .bool t.o.ts, .int .u32 t.o.val, .int .u32 t.o.ecr, .bool t.o.hs, .int .i64 t.o.scale, .slice a' n' cap', .slice b' m' bc'] 28) = W at *
      generalize w.heap.size = B at M0 ⊢
      have H : Hid (segSame s t = false) := Lib.hid (by rw [HS.out, h0, h1]; rfl)
      obtain ⟨c0, c1, c2, c3, c4, c5, c6, c7, c8, c9, c10⟩ := M0.s.at_.cs
      obtain ⟨d0, d1, d2, d3, d4, d5, d6, d7, d8, d9, d10⟩ := M0.t.at_.cs
      go_wp2
      go_ret
      exact ⟨by rw [H.out]; rfl, M0.s.below⟩
    | true =>
      cases h2 : sameB s.o t.o with
      | false =>
        go_enter Try.func20, Try.ntmps20
        go_wp2_with fail
        generalize (w.alloc (.cells #[.int .i64 s.kind, .int .u32 s.num, .int .i64 s.o.mss, .bool s.o.permit, .bool s.o.ts, .int .u32 s.o.val, .int .u32 s.o.ecr, .bool s.o.hs, .int .i64 s.o.scale, .slice a n cap, .slice b m bc] 28)).alloc (.cells #[.int .i64 t.kind, .int .u32 t.num, .int .i64 t.o.mss, .bool t.o.permit, .bool t.o.ts, .int .u32 t.o.val, .int .u32 t.o.ecr, .bool t.o.hs, .int .i64 t.o.scale, .slice a' n' cap', .slice b' m' bc'] 28) = W at *
        generalize w.heap.size = B at M0 ⊢
        have H : Hid (segSame s t = false) := Lib.hid (by rw [HS.out, h0, h1, h2]; rfl)
        have HH2 := Lib.hid h2
        clear h2
        obtain ⟨c0, c1, c2, c3, c4, c5, c6, c7, c8, c9, c10⟩ := M0.s.at_.cs
        obtain ⟨d0, d1, d2, d3, d4, d5, d6, d7, d8, d9, d10⟩ := M0.t.at_.cs
        have HC := Lib.hid (rsame_any s.o t.o a a' n n' cap cap' W M0.s.bl M0.t.bl)
        unfold optCells at HC
        refine HC.out.mono ?_
        rintro e w1 ⟨rfl, k1⟩
        rw [HH2.out]
        have M1 := M0.later k1
        clear M0 k1
        clear c0 c1 c2 c3 c4 c5 c6 c7 c8 c9 c10 d0 d1 d2 d3 d4 d5 d6 d7 d8 d9 d10
        go_wp2
        go_ret
        exact ⟨by rw [H.out]; rfl, M1.s.below⟩
      | true =>
        cases h3 : decide (s.body = t.body) with
        | false =>
          go_enter Try.func20, Try.ntmps20
          go_wp2_with fail
          generalize (w.alloc (.cells #[.int .i64 s.kind, .int .u32 s.num, .int .i64 s.o.mss, .bool s.o.permit, .bool s.o.ts, .int .u32 s.o.val, .int .u32 s.o.ecr, .bool s.o.hs, .int .i64 s.o.scale, .slice a n cap, .slice b m bc] 28)).alloc (.cells #[.int .i64 t.kind, .int .u32 t.num, .int .i64 t.o.mss, .bool t.o.permit, .bool t.o.ts, .int .u32 t.o.val, .int .u32 t.o.ecr, .bool t.o.hs, .int .i64 t.o.scale, .slice a' n' cap', .slice b' m' bc'] 28) = W at *
          generalize w.heap.size = B at M0 ⊢
          have H : Hid (segSame s t = false) := Lib.hid (by rw [HS.out, h0, h1, h2, h3]; rfl)
          have HH2 := Lib.hid h2
          clear h2
          have HH3 := Lib.hid h3
          clear h3
          obtain ⟨c0, c1, c2, c3, c4, c5, c6, c7, c8, c9, c10⟩ := M0.s.at_.cs
          obtain ⟨d0, d1, d2, d3, d4, d5, d6, d7, d8, d9, d10⟩ := M0.t.at_.cs
          have HC := Lib.hid (rsame_any s.o t.o a a' n n' cap cap' W M0.s.bl M0.t.bl)
          unfold optCells at HC
          refine HC.out.mono ?_
          rintro e w1 ⟨rfl, k1⟩
          rw [HH2.out]
          have M1 := M0.later k1
          clear M0 k1
          clear c0 c1 c2 c3 c4 c5 c6 c7 c8 c9 c10 d0 d1 d2 d3 d4 d5 d6 d7 d8 d9 d10
          obtain ⟨c0, c1, c2, c3, c4, c5, c6, c7, c8, c9, c10⟩ := M1.s.at_.cs
          obtain ⟨d0, d1, d2, d3, d4, d5, d6, d7, d8, d9, d10⟩ := M1.t.at_.cs
          go_wp2_with fail
          refine (same_bytes _ _ _ _ _ _ _ _ _ M1.s.body M1.t.body).mono ?_
          rintro e w2 ⟨rfl, k2⟩
          rw [HH3.out]
          have M2 := M1.later k2
          clear M1 k2
          clear c0 c1 c2 c3 c4 c5 c6 c7 c8 c9 c10 d0 d1 d2 d3 d4 d5 d6 d7 d8 d9 d10
          go_wp2
          go_ret
          exact ⟨by rw [H.out]; rfl, M2.s.below⟩
        | true =>
          go_enter Try.func20, Try.ntmps20
          go_wp2_with fail
          generalize (w.alloc (.cells #[.int .i64 s.kind, .int .u32 s.num, .int .i64 s.o.mss, .bool s.o.permit, .bool s.o.ts, .int .u32 s.o.val, .int .u32 s.o.ecr, .bool s.o.hs, .int .i64 s.o.scale, .slice a n cap, .slice b m bc] 28)).alloc (.cells #[.int .i64 t.kind, .int .u32 t.num, .int .i64 t.o.mss, .bool t.o.permit, .bool t.o.ts, .int .u32 t.o.val, .int .u32 t.o.ecr, .bool t.o.hs, .int .i64 t.o.scale, .slice a' n' cap', .slice b' m' bc'] 28) = W at *
          generalize w.heap.size = B at M0 ⊢
          have H : Hid (segSame s t = true) := Lib.hid (by rw [HS.out, h0, h1, h2, h3]; rfl)
          have HH2 := Lib.hid h2
          clear h2
          have HH3 := Lib.hid h3
          clear h3
          obtain ⟨c0, c1, c2, c3, c4, c5, c6, c7, c8, c9, c10⟩ := M0.s.at_.cs
          obtain ⟨d0, d1, d2, d3, d4, d5, d6, d7, d8, d9, d10⟩ := M0.t.at_.cs
          have HC := Lib.hid (rsame_any s.o t.o a a' n n' cap cap' W M0.s.bl M0.t.bl)
          unfold optCells at HC
          refine HC.out.mono ?_
          rintro e w1 ⟨rfl, k1⟩
          rw [HH2.out]
          have M1 := M0.later k1
          clear M0 k1
          clear c0 c1 c2 c3 c4 c5 c6 c7 c8 c9 c10 d0 d1 d2 d3 d4 d5 d6 d7 d8 d9 d10
          obtain ⟨c0, c1, c2, c3, c4, c5, c6, c7, c8, c9, c10⟩ := M1.s.at_.cs
          obtain ⟨d0, d1, d2, d3, d4, d5, d6, d7, d8, d9, d10⟩ := M1.t.at_.cs
          go_wp2_with fail
          refine (same_bytes _ _ _ _ _ _ _ _ _ M1.s.body M1.t.body).mono ?_
          rintro e w2 ⟨rfl, k2⟩
          rw [HH3.out]
          have M2 := M1.later k2
          clear M1 k2
          clear c0 c1 c2 c3 c4 c5 c6 c7 c8 c9 c10 d0 d1 d2 d3 d4 d5 d6 d7 d8 d9 d10
          go_wp2
          go_ret
          exact ⟨by rw [H.out]; rfl, M2.s.below⟩

end Go.Proofs.Ytdfenlagokndkaa.sg
