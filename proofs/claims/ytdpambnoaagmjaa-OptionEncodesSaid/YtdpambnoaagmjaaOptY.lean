/-
  The law OptionEncodes.
-/
import Derived.Test.YtdpambnoaagmjaaOptH
import Derived.Test.YtdpambnoaagmjaaOptN
import Derived.Test.YtdpambnoaagmjaaOptV
import Derived.Test.YtdpambnoaagmjaaOptD
import Derived.Test.YtdpambnoaagmjaaOptK
import Derived.Test.YtdpambnoaagmjaaOptZ
namespace Go.Proofs.Ytdpambnoaagmjaa.op
open Go.RowKit aid mem oc
set_option linter.unusedVariables false

/-- both Encodes, whichever: the same bytes, the same number -/
def BothPost (o : Opt) (w : World) (e : Ending) (w' : World) : Prop :=
  ∃ a m cap, e = .returned (.tuple #[.slice a m cap, .int .i64 (chk o)]) ∧ SlA .u8 w' a m cap (if chk o = 0 then enc o else []) ∧ Below w.heap.size w w'
theorem encode_both (o : Opt) (a : Option Addr) (n cap : Nat) (w : World) (hf : o.Fit) (hbl : BlA w a n cap o.bl) : Calls Try.prog 22 #[.agg (optCells o a n cap)] w (BothPost o w) := by
  by_cases hc : chk o = 0
  · refine (encode_ok o a n cap w hf hbl hc).mono ?_
    rintro e w' ⟨v, rfl, hown, hb⟩
    obtain ⟨a4, cap4, hv, hs, _⟩ := sl_of_own hown
    subst hv
    exact ⟨a4, _, cap4, by rw [hc], by rw [if_pos hc]; exact hs, hb⟩
  · refine (encode_no o a n cap w hf hbl hc).mono ?_
    rintro e w' ⟨rfl, hb⟩
    exact ⟨none, 0, 0, rfl, by rw [if_neg hc]; exact ⟨rfl, Nat.le_refl _, by simp [maxLen], fun _ => rfl, fun h => by omega⟩, hb⟩
theorem rencode_both (o : Opt) (a : Option Addr) (n cap : Nat) (w : World) (hf : o.Fit) (hbl : BlA w a n cap o.bl) : Calls Try.prog 23 #[.agg (optCells o a n cap)] w (BothPost o w) := by
  by_cases hc : chk o = 0
  · refine (rencode_ok o a n cap w hf hbl hc).mono ?_
    rintro e w' ⟨v, rfl, hown, hb⟩
    obtain ⟨a4, cap4, hv, hs, _⟩ := sl_of_own hown
    subst hv
    exact ⟨a4, _, cap4, by rw [hc], by rw [if_pos hc]; exact hs, hb⟩
  · refine (rencode_no o a n cap w hbl hc).mono ?_
    rintro e w' ⟨rfl, hb⟩
    exact ⟨none, 0, 0, rfl, by rw [if_neg hc]; exact ⟨rfl, Nat.le_refl _, by simp [maxLen], fun _ => rfl, fun h => by omega⟩, hb⟩

/-- two options in their boxes, and their blocks; since w0 nothing of it has changed -/
structure St (w0 : World) (B : Nat) (o : Opt) (a : Option Addr) (n cap : Nat) (q : Opt) (aq : Option Addr) (nq capq : Nat) (w : World) : Prop where
  bo : OptAt w B o a n cap
  bq : OptAt w (B + 1) q aq nq capq
  lo : BlA w a n cap o.bl
  lq : BlA w aq nq capq q.bl
  below : Below B w0 w
  le : B ≤ w.heap.size
theorem St.later {w0 : World} {B : Nat} {o : Opt} {a : Option Addr} {n cap : Nat} {q : Opt} {aq : Option Addr} {nq capq : Nat} {w w' : World} (h : St w0 B o a n cap q aq nq capq w) (hb : Below w.heap.size w w') : St w0 B o a n cap q aq nq capq w' :=
  have hk := Kept.of_below hb (Nat.le_refl _) []
  ⟨h.bo.keep hk (by simp), h.bq.keep hk (by simp), h.lo.later hb, h.lq.later hb, h.below.trans (hb.mono h.le), Nat.le_trans h.le hb.size⟩

/-- and a third one, that is as the first -/
structure St3 (w0 : World) (B : Nat) (o : Opt) (a : Option Addr) (n cap : Nat) (q : Opt) (aq : Option Addr) (nq capq X : Nat) (ax : Option Addr) (capx : Nat) (w : World) : Prop where
  st : St w0 B o a n cap q aq nq capq w
  bx : OptAt w X o ax n capx
  lx : BlA w ax n capx o.bl
theorem St3.later {w0 : World} {B : Nat} {o : Opt} {a : Option Addr} {n cap : Nat} {q : Opt} {aq : Option Addr} {nq capq X : Nat} {ax : Option Addr} {capx : Nat} {w w' : World} (h : St3 w0 B o a n cap q aq nq capq X ax capx w) (hb : Below w.heap.size w w') : St3 w0 B o a n cap q aq nq capq X ax capx w' :=
  ⟨h.st.later hb, h.bx.keep (Kept.of_below hb (Nat.le_refl _) []) (by simp), h.lx.later hb⟩
theorem OptAt.all {w : World} {B : Nat} {o : Opt} {a : Option Addr} {n cap : Nat} (h : OptAt w B o a n cap) : w.cell? ⟨B, 0, none⟩ = some (.int .i64 o.mss) ∧ w.cell? ⟨B, 1, none⟩ = some (.bool o.permit) ∧ w.cell? ⟨B, 2, none⟩ = some (.bool o.ts) ∧ w.cell? ⟨B, 3, none⟩ = some (.int .u32 o.val) ∧ w.cell? ⟨B, 4, none⟩ = some (.int .u32 o.ecr) ∧ w.cell? ⟨B, 5, none⟩ = some (.bool o.hs) ∧ w.cell? ⟨B, 6, none⟩ = some (.int .i64 o.scale) ∧ w.cell? ⟨B, 7, none⟩ = some (.slice a n cap) :=
  ⟨h.c0, h.c1, h.c2, h.c3, h.c4, h.c5, h.c6, h.c7⟩

theorem St3.all {w0 : World} {B : Nat} {o : Opt} {a : Option Addr} {n cap : Nat} {q : Opt} {aq : Option Addr} {nq capq X : Nat} {a5 : Option Addr} {c5' : Nat} {w : World} (h : St3 w0 B o a n cap q aq nq capq X a5 c5' w) :
    w.cell? ⟨B, 0, none⟩ = some (.int .i64 o.mss) ∧ w.cell? ⟨B, 1, none⟩ = some (.bool o.permit) ∧ w.cell? ⟨B, 2, none⟩ = some (.bool o.ts) ∧ w.cell? ⟨B, 3, none⟩ = some (.int .u32 o.val) ∧ w.cell? ⟨B, 4, none⟩ = some (.int .u32 o.ecr) ∧ w.cell? ⟨B, 5, none⟩ = some (.bool o.hs) ∧ w.cell? ⟨B, 6, none⟩ = some (.int .i64 o.scale) ∧ w.cell? ⟨B, 7, none⟩ = some (.slice a n cap) ∧ w.cell? ⟨(B + 1), 0, none⟩ = some (.int .i64 q.mss) ∧ w.cell? ⟨(B + 1), 1, none⟩ = some (.bool q.permit) ∧ w.cell? ⟨(B + 1), 2, none⟩ = some (.bool q.ts) ∧ w.cell? ⟨(B + 1), 3, none⟩ = some (.int .u32 q.val) ∧ w.cell? ⟨(B + 1), 4, none⟩ = some (.int .u32 q.ecr) ∧ w.cell? ⟨(B + 1), 5, none⟩ = some (.bool q.hs) ∧ w.cell? ⟨(B + 1), 6, none⟩ = some (.int .i64 q.scale) ∧ w.cell? ⟨(B + 1), 7, none⟩ = some (.slice aq nq capq) ∧ w.cell? ⟨X, 0, none⟩ = some (.int .i64 o.mss) ∧ w.cell? ⟨X, 1, none⟩ = some (.bool o.permit) ∧ w.cell? ⟨X, 2, none⟩ = some (.bool o.ts) ∧ w.cell? ⟨X, 3, none⟩ = some (.int .u32 o.val) ∧ w.cell? ⟨X, 4, none⟩ = some (.int .u32 o.ecr) ∧ w.cell? ⟨X, 5, none⟩ = some (.bool o.hs) ∧ w.cell? ⟨X, 6, none⟩ = some (.int .i64 o.scale) ∧ w.cell? ⟨X, 7, none⟩ = some (.slice a5 n c5') :=
  ⟨h.st.bo.c0, h.st.bo.c1, h.st.bo.c2, h.st.bo.c3, h.st.bo.c4, h.st.bo.c5, h.st.bo.c6, h.st.bo.c7, h.st.bq.c0, h.st.bq.c1, h.st.bq.c2, h.st.bq.c3, h.st.bq.c4, h.st.bq.c5, h.st.bq.c6, h.st.bq.c7, h.bx.c0, h.bx.c1, h.bx.c2, h.bx.c3, h.bx.c4, h.bx.c5, h.bx.c6, h.bx.c7⟩

set_option maxRecDepth 100000 in
set_option maxHeartbeats 6400000 in
theorem walk_OptionEncodes (w : World) (o : Opt) (a : Option Addr) (n cap : Nat) (hf : o.Fit) (hbl : BlA w a n cap o.bl) (q : Opt) (aq : Option Addr) (nq capq : Nat) (hfq : q.Fit) (hblq : BlA w aq nq capq q.bl) (hby : n * 8 ≤ 140737488355328) :
    Calls Try.prog 8 #[.agg (optCells o a n cap), .agg (optCells q aq nq capq)] w fun e w' => e = .returned (.bool true) ∧ Below w.heap.size w w' := by
  have hb1 : Below w.heap.size w (w.alloc (.cells (optCells o a n cap) 40)) := (Below.refl _ _).alloc (Nat.le_refl _) _
  have HST : St w w.heap.size o a n cap q aq nq capq ((w.alloc (.cells (optCells o a n cap) 40)).alloc (.cells (optCells q aq nq capq) 40)) :=
    ⟨(opt_new w o a n cap 40).keep ((Kept.refl [] _).alloc (.cells (optCells q aq nq capq) 40)) (by simp),
     by simpa using opt_new (w.alloc (.cells (optCells o a n cap) 40)) q aq nq capq 40,
     (hbl.later hb1).later ((Below.refl _ _).alloc (Nat.le_refl _) _), (hblq.later hb1).later ((Below.refl _ _).alloc (Nat.le_refl _) _), hb1.alloc hb1.size _, by simp; omega⟩
  have HCE : Hid (optCells o a n cap = #[.int .i64 o.mss, .bool o.permit, .bool o.ts, .int .u32 o.val, .int .u32 o.ecr, .bool o.hs, .int .i64 o.scale, .slice a n cap]) := Lib.hid rfl
  have HCQ : Hid (optCells q aq nq capq = #[.int .i64 q.mss, .bool q.permit, .bool q.ts, .int .u32 q.val, .int .u32 q.ecr, .bool q.hs, .int .i64 q.scale, .slice aq nq capq]) := Lib.hid rfl
  clear hb1 hbl hblq
  go_enter Try.func8, Try.ntmps8
  go_wp2_with fail
  obtain ⟨B, hB⟩ : ∃ B, w.heap.size = B := ⟨_, rfl⟩
  obtain ⟨w1, hw1⟩ : ∃ w1, (w.alloc (.cells (optCells o a n cap) 40)).alloc (.cells (optCells q aq nq capq) 40) = w1 := ⟨_, rfl⟩
  rw [hw1, hB] at HST
  rw [hw1, hB]
  clear hw1
  rw [HCE.out, HCQ.out]
  refine (known_any w1).mono ?_
  rintro e w2 ⟨rfl, h2⟩
  have S2 := HST.later h2
  clear HST h2
  obtain ⟨c0, c1, c2, c3, c4, c5, c6, c7⟩ := S2.bo
  go_wp2_with fail
  rw [← HCE.out]
  refine (encode_both o a n cap w2 hf S2.lo).mono ?_
  rintro e w3 ⟨a3, m, c3', rfl, hs3, h3⟩
  have S3 := S2.later h3
  clear S2 h3 c0 c1 c2 c3 c4 c5 c6 c7
  obtain ⟨c0, c1, c2, c3, c4, c5, c6, c7⟩ := S3.bo
  rw [HCE.out]
  go_wp2_with fail
  rw [← HCE.out]
  refine (rencode_both o a n cap w3 hf S3.lo).mono ?_
  rintro e w4 ⟨a4, m', c4', rfl, hs4, h4⟩
  have S4 := S3.later h4
  have hs3' := hs3.later h4
  clear S3 h4 hs3 c0 c1 c2 c3 c4 c5 c6 c7
  obtain ⟨EL, hEL⟩ : ∃ EL, (if chk o = 0 then enc o else []) = EL := ⟨_, rfl⟩
  rw [hEL] at hs3' hs4
  clear hEL
  obtain rfl : m' = m := by rw [← hs4.len, ← hs3'.len]
  obtain ⟨C, hC⟩ : ∃ C, chk o = C := ⟨_, rfl⟩
  have HCK := Lib.hid hC
  rw [hC]
  clear hC
  obtain ⟨c0, c1, c2, c3, c4, c5, c6, c7⟩ := S4.bo
  rw [HCE.out]
  go_wp2_with fail
  have hd : Below w4.heap.size w4 w4.drew := (Below.refl _ _).drew
  have S4d := S4.later hd
  have hs3d := hs3'.later hd
  have hs4d := hs4.later hd
  clear hd hs3' hs4 c0 c1 c2 c3 c4 c5 c6 c7
  go_region_held3 (fun w' => w'.cell? ⟨B, 0, none⟩ = some (.int .i64 o.mss) ∧ w'.cell? ⟨B, 1, none⟩ = some (.bool o.permit) ∧ w'.cell? ⟨B, 2, none⟩ = some (.bool o.ts) ∧ w'.cell? ⟨B, 3, none⟩ = some (.int .u32 o.val) ∧ w'.cell? ⟨B, 4, none⟩ = some (.int .u32 o.ecr) ∧ w'.cell? ⟨B, 5, none⟩ = some (.bool o.hs) ∧ w'.cell? ⟨B, 6, none⟩ = some (.int .i64 o.scale) ∧ w'.cell? ⟨B, 7, none⟩ = some (.slice a n cap)) (first | exact S9.bo.all | exact S8.bo.all | exact S7.bo.all | exact S6.bo.all | exact S5.bo.all | exact S4d.bo.all | exact S4.bo.all | go_keep) (first
    | (go_at_call 24; refine (same_true _ _ _ _ _ EL _ hs3d hs4d).mono ?_; rintro e w5 ⟨rfl, k5, hw5⟩; have S5 := S4d.later (below_drewN (Below.refl _ _) k5); rw [← hw5] at S5; clear S4d hw5 hs3d hs4d)
    | (go_at_call 25; go_must (refine (check_any o a n cap _ hf S5.lo).mono ?_; rintro e w6 ⟨rfl, h6⟩; have S6 := S5.later h6; clear S5 h6; rw [HCK.out]))
    | (go_at_call 26; refine (rchk_any o a n cap _ S6.lo).mono ?_; rintro e w7 ⟨rfl, h7⟩; have S7 := S6.later h7; clear S6 h7; rw [HCK.out])
    | (go_at_call 27; refine (size_any o a n cap _ hf S7.lo).mono ?_; rintro e w8 ⟨rfl, h8⟩; have S8 := S7.later h8; clear S7 h8)
    | (go_at_call 28; refine (rsize_any o a n cap _ S8.lo).mono ?_; rintro e w9 ⟨rfl, h9⟩; have S9 := S8.later h9; clear S8 h9))
  all_goals
    obtain ⟨c0, c1, c2, c3, c4, c5, c6, c7⟩ := S9.bo
    go_wp2_with fail
    rw [← HCE.out]
    refine (clone_any o a n cap w9 S9.lo hby).mono ?_
    rintro e w10 ⟨a5, c5', rfl, hl5, h10⟩
    have S10 := S9.later h10
    clear S9 h10 c0 c1 c2 c3 c4 c5 c6 c7
    have HCX : Hid (optCells o a5 n c5' = #[.int .i64 o.mss, .bool o.permit, .bool o.ts, .int .u32 o.val, .int .u32 o.ecr, .bool o.hs, .int .i64 o.scale, .slice a5 n c5']) := Lib.hid rfl
    rw [HCX.out, HCE.out]
    go_wp2_with fail
    have hd := (Below.refl w10.heap.size w10).alloc (Nat.le_refl _) (.cells (optCells o a5 n c5') 40)
    have S11 : St3 w B o a n cap q aq nq capq w10.heap.size a5 c5' (w10.alloc (.cells (optCells o a5 n c5') 40)) := ⟨S10.later hd, opt_new w10 o a5 n c5' 40, hl5.later hd⟩
    clear S10 hl5 hd
    rw [HCX.out] at S11
    obtain ⟨X, hX⟩ : ∃ X, w10.heap.size = X := ⟨_, rfl⟩
    obtain ⟨w11, hw11⟩ : ∃ w11, (w10.alloc (.cells #[.int .i64 o.mss, .bool o.permit, .bool o.ts, .int .u32 o.val, .int .u32 o.ecr, .bool o.hs, .int .i64 o.scale, .slice a5 n c5'] 40)) = w11 := ⟨_, rfl⟩
    rw [hX, hw11] at S11
    rw [hX, hw11]
    clear hX hw11
    have S11d := S11.later ((Below.refl w11.heap.size w11).drew)
    obtain ⟨bb, hbb⟩ : ∃ bb, sameB o q = bb := ⟨_, rfl⟩
    have HBB := Lib.hid hbb
    clear hbb
    go_region_held3 (fun w' => w'.cell? ⟨B, 0, none⟩ = some (.int .i64 o.mss) ∧ w'.cell? ⟨B, 1, none⟩ = some (.bool o.permit) ∧ w'.cell? ⟨B, 2, none⟩ = some (.bool o.ts) ∧ w'.cell? ⟨B, 3, none⟩ = some (.int .u32 o.val) ∧ w'.cell? ⟨B, 4, none⟩ = some (.int .u32 o.ecr) ∧ w'.cell? ⟨B, 5, none⟩ = some (.bool o.hs) ∧ w'.cell? ⟨B, 6, none⟩ = some (.int .i64 o.scale) ∧ w'.cell? ⟨B, 7, none⟩ = some (.slice a n cap) ∧ w'.cell? ⟨B + 1, 0, none⟩ = some (.int .i64 q.mss) ∧ w'.cell? ⟨B + 1, 1, none⟩ = some (.bool q.permit) ∧ w'.cell? ⟨B + 1, 2, none⟩ = some (.bool q.ts) ∧ w'.cell? ⟨B + 1, 3, none⟩ = some (.int .u32 q.val) ∧ w'.cell? ⟨B + 1, 4, none⟩ = some (.int .u32 q.ecr) ∧ w'.cell? ⟨B + 1, 5, none⟩ = some (.bool q.hs) ∧ w'.cell? ⟨B + 1, 6, none⟩ = some (.int .i64 q.scale) ∧ w'.cell? ⟨B + 1, 7, none⟩ = some (.slice aq nq capq) ∧ w'.cell? ⟨X, 0, none⟩ = some (.int .i64 o.mss) ∧ w'.cell? ⟨X, 1, none⟩ = some (.bool o.permit) ∧ w'.cell? ⟨X, 2, none⟩ = some (.bool o.ts) ∧ w'.cell? ⟨X, 3, none⟩ = some (.int .u32 o.val) ∧ w'.cell? ⟨X, 4, none⟩ = some (.int .u32 o.ecr) ∧ w'.cell? ⟨X, 5, none⟩ = some (.bool o.hs) ∧ w'.cell? ⟨X, 6, none⟩ = some (.int .i64 o.scale) ∧ w'.cell? ⟨X, 7, none⟩ = some (.slice a5 n c5')) (first | exact S16.all | exact S15.all | exact S14.all | exact S13.all | exact S12.all | exact S11d.all | exact S11.all | go_keep) (first
      | (go_at_call 30; refine (same_any o q a aq n nq cap capq _ S11d.st.lo S11d.st.lq).mono ?_; rintro e w12 ⟨rfl, h12⟩; have S12 := S11d.later h12; clear S11d h12; rw [HBB.out])
      | (go_at_call 31; refine (rsame_any o q a aq n nq cap capq _ S12.st.lo S12.st.lq).mono ?_; rintro e w13 ⟨rfl, h13⟩; have S13 := S12.later h13; clear S12 h13; rw [HBB.out])
      | (go_at_call 30; refine (same_any o o a a n n cap cap _ S13.st.lo S13.st.lo).mono ?_; rintro e w14 ⟨rfl, h14⟩; have S14 := S13.later h14; clear S13 h14; rw [sameB_self])
      | (go_at_call 31; refine (rsame_any o o a5 a n n c5' cap _ S14.lx S14.st.lo).mono ?_; rintro e w15 ⟨rfl, h15⟩; have S15 := S14.later h15; clear S14 h15; rw [sameB_self])
      | (go_at_call 21; refine (known_any _).mono ?_; rintro e w16 ⟨rfl, h16⟩; have S16 := S15.later h16; clear S15 h16))
    all_goals
      go_wp2
      go_ret
      exact ⟨rfl, by first | exact S16.st.below | (rw [hB]; exact S16.st.below)⟩
end Go.Proofs.Ytdpambnoaagmjaa.op
