/-
  The walk of the law SegmentEncodes.
-/
import Derived.Test.YtdfenlagokndkaaSegK
import Derived.Test.YtdfenlagokndkaaSegR
import Derived.Test.YtdfenlagokndkaaSegT
import Derived.Deep.DrawnRows
namespace Go.Proofs.Ytdfenlagokndkaa.sg
open Go.RowKit aid mem oc op sm
attribute [local go_sem ↓] Go.wp_at_zero Go.wp_at_succ
set_option linter.unusedVariables false

set_option maxRecDepth 100000 in
set_option maxHeartbeats 1600000 in
theorem rsencode_no (s : Seg) (a : Option Addr) (n cap : Nat) (b : Option Addr) (m bc : Nat) (w : World) (hl : BlA w a n cap s.o.bl) (hb : SlA .u8 w b m bc s.body) (hk : schk s ≠ 0) :
    Calls Try.prog 13 #[segV s a n cap b m bc] w fun e w' => e = .returned (.tuple #[.slice none 0 0, .int .i64 (schk s)]) ∧ Below w.heap.size w w' := by
  have M0 := sm_new w s a n cap b m bc hl hb
  have HC := Lib.hid (fun W h1 h2 => rscheck_any s a n cap b m bc W h1 h2)
  have hne : (schk s != 0) = true := by simpa using hk
  clear hl hb hk
  generalize schk s = c at *
  go_enter Try.func13, Try.ntmps13
  go_wp2_with fail
  generalize w.alloc (.cells #[.int .i64 s.kind, .int .u32 s.num, .int .i64 s.o.mss, .bool s.o.permit, .bool s.o.ts, .int .u32 s.o.val, .int .u32 s.o.ecr, .bool s.o.hs, .int .i64 s.o.scale, .slice a n cap, .slice b m bc] 28) = W at *
  refine (HC.out _ M0.bl M0.body).mono ?_
  rintro e w1 ⟨rfl, h1⟩
  have M1 := M0.later h1
  clear M0 h1
  go_wp2
  go_ret2
  exact ⟨rfl, M1.below⟩

def encSL (s : Seg) : List Int := if schk s = 0 then sencL s else []
theorem sizeS_eq (s : Seg) : sizeS s = ((encSL s).length : Int) := by
  unfold sizeS encSL
  split <;> rfl
/-- the bytes, or none, and what is wrong -/
def BothP (s : Seg) (w : World) (e : Ending) (w' : World) : Prop :=
  ∃ x k c, e = .returned (.tuple #[.slice x k c, .int .i64 (schk s)]) ∧ SlA .u8 w' x k c (encSL s) ∧ Below w.heap.size w w'
theorem enc_both (s : Seg) (a : Option Addr) (n cap : Nat) (b : Option Addr) (m bc : Nat) (w : World) (hf : s.Fit) (hl : BlA w a n cap s.o.bl) (hb : SlA .u8 w b m bc s.body) (hbo : Old w b bc) :
    Calls Try.prog 12 #[segV s a n cap b m bc] w (BothP s w) := by
  by_cases hk : schk s = 0
  · refine (sencode_ok s a n cap b m bc w hf hl hb hbo hk).mono ?_
    rintro e w' ⟨v, rfl, hown, h⟩
    obtain ⟨x, c, hv, hs, _⟩ := sl_of_own hown
    subst hv
    exact ⟨x, _, c, by rw [hk], by unfold encSL; rw [if_pos hk]; exact hs, h⟩
  · refine (sencode_no s a n cap b m bc w hf hl hb hk).mono ?_
    rintro e w' ⟨rfl, h⟩
    exact ⟨none, 0, 0, rfl, by unfold encSL; rw [if_neg hk]; exact sl_none w', h⟩
theorem renc_both (s : Seg) (a : Option Addr) (n cap : Nat) (b : Option Addr) (m bc : Nat) (w : World) (hf : s.Fit) (hl : BlA w a n cap s.o.bl) (hb : SlA .u8 w b m bc s.body) (hbo : Old w b bc) :
    Calls Try.prog 13 #[segV s a n cap b m bc] w (BothP s w) := by
  by_cases hk : schk s = 0
  · refine (rsencode_ok s a n cap b m bc w hf hl hb hbo hk).mono ?_
    rintro e w' ⟨v, rfl, hown, h⟩
    obtain ⟨x, c, hv, hs, _⟩ := sl_of_own hown
    subst hv
    exact ⟨x, _, c, by rw [hk], by unfold encSL; rw [if_pos hk]; exact hs, h⟩
  · refine (rsencode_no s a n cap b m bc w hl hb hk).mono ?_
    rintro e w' ⟨rfl, h⟩
    exact ⟨none, 0, 0, rfl, by unfold encSL; rw [if_neg hk]; exact sl_none w', h⟩

/-- two segments, a clone, two rows of bytes -/
structure S3 (w0 : World) (B : Nat) (s : Seg) (a : Option Addr) (n cap : Nat) (b : Option Addr) (m bc : Nat) (t : Seg) (a' : Option Addr) (n' cap' : Nat) (b' : Option Addr) (m' bc' : Nat) (X : Nat) (a5 : Option Addr) (cap5 : Nat) (b5 : Option Addr) (bc5 : Nat) (EL : List Int) (y : Option Addr) (k c : Nat) (z : Option Addr) (d : Nat) (w : World) : Prop where
  st : S2 w0 B s a n cap b m bc t a' n' cap' b' m' bc' w
  x : SM w0 X s a5 n cap5 b5 m bc5 w
  eb : SlA .u8 w y k c EL
  ec : SlA .u8 w z k d EL
section
variable {w0 : World} {B : Nat} {s : Seg} {a : Option Addr} {n cap : Nat} {b : Option Addr} {m bc : Nat} {t : Seg} {a' : Option Addr} {n' cap' : Nat} {b' : Option Addr} {m' bc' : Nat} {X : Nat} {a5 : Option Addr} {cap5 : Nat} {b5 : Option Addr} {bc5 : Nat} {EL : List Int} {y : Option Addr} {k c : Nat} {z : Option Addr} {d : Nat} {w w' : World}
theorem S3.later (h : S3 w0 B s a n cap b m bc t a' n' cap' b' m' bc' X a5 cap5 b5 bc5 EL y k c z d w) (hb : Below w.heap.size w w') : S3 w0 B s a n cap b m bc t a' n' cap' b' m' bc' X a5 cap5 b5 bc5 EL y k c z d w' :=
  ⟨h.st.later hb, h.x.later hb, h.eb.later hb, h.ec.later hb⟩
theorem S3.all (h : S3 w0 B s a n cap b m bc t a' n' cap' b' m' bc' X a5 cap5 b5 bc5 EL y k c z d w) :
    (w.cell? ⟨B, 0, none⟩ = some (.int .i64 s.kind) ∧ w.cell? ⟨B, 1, none⟩ = some (.int .u32 s.num) ∧ w.cell? ⟨B, 2, none⟩ = some (.int .i64 s.o.mss) ∧ w.cell? ⟨B, 3, none⟩ = some (.bool s.o.permit) ∧ w.cell? ⟨B, 4, none⟩ = some (.bool s.o.ts) ∧ w.cell? ⟨B, 5, none⟩ = some (.int .u32 s.o.val) ∧ w.cell? ⟨B, 6, none⟩ = some (.int .u32 s.o.ecr) ∧ w.cell? ⟨B, 7, none⟩ = some (.bool s.o.hs) ∧ w.cell? ⟨B, 8, none⟩ = some (.int .i64 s.o.scale) ∧ w.cell? ⟨B, 9, none⟩ = some (.slice a n cap) ∧ w.cell? ⟨B, 10, none⟩ = some (.slice b m bc)) ∧ (w.cell? ⟨B + 1, 0, none⟩ = some (.int .i64 t.kind) ∧ w.cell? ⟨B + 1, 1, none⟩ = some (.int .u32 t.num) ∧ w.cell? ⟨B + 1, 2, none⟩ = some (.int .i64 t.o.mss) ∧ w.cell? ⟨B + 1, 3, none⟩ = some (.bool t.o.permit) ∧ w.cell? ⟨B + 1, 4, none⟩ = some (.bool t.o.ts) ∧ w.cell? ⟨B + 1, 5, none⟩ = some (.int .u32 t.o.val) ∧ w.cell? ⟨B + 1, 6, none⟩ = some (.int .u32 t.o.ecr) ∧ w.cell? ⟨B + 1, 7, none⟩ = some (.bool t.o.hs) ∧ w.cell? ⟨B + 1, 8, none⟩ = some (.int .i64 t.o.scale) ∧ w.cell? ⟨B + 1, 9, none⟩ = some (.slice a' n' cap') ∧ w.cell? ⟨B + 1, 10, none⟩ = some (.slice b' m' bc')) ∧ (w.cell? ⟨X, 0, none⟩ = some (.int .i64 s.kind) ∧ w.cell? ⟨X, 1, none⟩ = some (.int .u32 s.num) ∧ w.cell? ⟨X, 2, none⟩ = some (.int .i64 s.o.mss) ∧ w.cell? ⟨X, 3, none⟩ = some (.bool s.o.permit) ∧ w.cell? ⟨X, 4, none⟩ = some (.bool s.o.ts) ∧ w.cell? ⟨X, 5, none⟩ = some (.int .u32 s.o.val) ∧ w.cell? ⟨X, 6, none⟩ = some (.int .u32 s.o.ecr) ∧ w.cell? ⟨X, 7, none⟩ = some (.bool s.o.hs) ∧ w.cell? ⟨X, 8, none⟩ = some (.int .i64 s.o.scale) ∧ w.cell? ⟨X, 9, none⟩ = some (.slice a5 n cap5) ∧ w.cell? ⟨X, 10, none⟩ = some (.slice b5 m bc5)) := ⟨h.st.s.at_.cs.all, h.st.t.at_.cs.all, h.x.at_.cs.all⟩
end

set_option maxRecDepth 100000 in
set_option maxHeartbeats 12800000 in
theorem walk_SegmentEncodes (w : World) (s : Seg) (a : Option Addr) (n cap : Nat) (b : Option Addr) (m bc : Nat) (hf : s.Fit) (hl : BlA w a n cap s.o.bl) (hb : SlA .u8 w b m bc s.body) (hbo : Old w b bc) (t : Seg) (a' : Option Addr) (n' cap' : Nat) (b' : Option Addr) (m' bc' : Nat) (hft : t.Fit) (hl' : BlA w a' n' cap' t.o.bl) (hb' : SlA .u8 w b' m' bc' t.body) (hbo' : Old w b' bc') (hr : n * 8 ≤ 140737488355328 ∧ m ≤ 140737488355328) :
    Calls Try.prog 3 #[segV s a n cap b m bc, segV t a' n' cap' b' m' bc'] w fun e w' => e = .returned (.bool true) ∧ Below w.heap.size w w' := by
  have M0 := s2_new w s a n cap b m bc t a' n' cap' b' m' bc' hl hb hl' hb'
  have HO0 := Lib.hid ((hbo.later (bal (w := w) (.cells #[.int .i64 s.kind, .int .u32 s.num, .int .i64 s.o.mss, .bool s.o.permit, .bool s.o.ts, .int .u32 s.o.val, .int .u32 s.o.ecr, .bool s.o.hs, .int .i64 s.o.scale, .slice a n cap, .slice b m bc] 28))).later (bal (w := w.alloc (.cells #[.int .i64 s.kind, .int .u32 s.num, .int .i64 s.o.mss, .bool s.o.permit, .bool s.o.ts, .int .u32 s.o.val, .int .u32 s.o.ecr, .bool s.o.hs, .int .i64 s.o.scale, .slice a n cap, .slice b m bc] 28)) (.cells #[.int .i64 t.kind, .int .u32 t.num, .int .i64 t.o.mss, .bool t.o.permit, .bool t.o.ts, .int .u32 t.o.val, .int .u32 t.o.ecr, .bool t.o.hs, .int .i64 t.o.scale, .slice a' n' cap', .slice b' m' bc'] 28)))
  have bs := hf.body
  have bt := hft.body
  have HE := Lib.hid (fun W h1 h2 h3 => enc_both s a n cap b m bc W hf h1 h2 h3)
  have HR := Lib.hid (fun W h1 h2 h3 => renc_both s a n cap b m bc W hf h1 h2 h3)
  have HCL := Lib.hid (fun W h1 h2 => sclone_any s a n cap b m bc W h1 h2 hr.1 hr.2)
  have HC := Lib.hid (fun W h1 h2 => scheck_any s a n cap b m bc W hf h1 h2)
  have HRC := Lib.hid (fun W h1 h2 => rscheck_any s a n cap b m bc W h1 h2)
  have HZ := Lib.hid (fun W h1 h2 => ssize_any s a n cap b m bc W hf h1 h2)
  rw [sizeS_eq] at HZ
  have HST := Lib.hid (fun W h1 h2 h3 h4 => ssame_any s t a n cap b m bc a' n' cap' b' m' bc' W h1 h2 h3 h4 bs bt)
  have HRT := Lib.hid (fun W h1 h2 h3 h4 => rssame_any s t a n cap b m bc a' n' cap' b' m' bc' W h1 h2 h3 h4 bs bt)
  have HSS := Lib.hid (fun W h1 h2 h3 h4 => ssame_any s s a n cap b m bc a n cap b m bc W h1 h2 h3 h4 bs bs)
  have HRX := Lib.hid (fun a5 cap5 b5 bc5 W h1 h2 h3 h4 => rssame_any s s a5 n cap5 b5 m bc5 a n cap b m bc W h1 h2 h3 h4 bs bs)
  rw [segSame_self] at HSS HRX
  have HS1 := Lib.hid (fun (y : Option Addr) (k c : Nat) (z : Option Addr) (d : Nat) (W : World) h1 h2 => same_bytes y z k c k d (encSL s) (encSL s) W h1 h2)
  rw [decide_eq_true rfl] at HS1
  unfold BothP at HE HR
  unfold ClonePost at HCL
  generalize encSL s = EL at *
  generalize schk s = C at *
  generalize segSame s t = bb at *
  clear hl hb hl' hb' hbo hbo' bs bt hf hft hr
  go_enter Try.func3, Try.ntmps3
  go_wp2_with fail
  generalize (w.alloc (.cells #[.int .i64 s.kind, .int .u32 s.num, .int .i64 s.o.mss, .bool s.o.permit, .bool s.o.ts, .int .u32 s.o.val, .int .u32 s.o.ecr, .bool s.o.hs, .int .i64 s.o.scale, .slice a n cap, .slice b m bc] 28)).alloc (.cells #[.int .i64 t.kind, .int .u32 t.num, .int .i64 t.o.mss, .bool t.o.permit, .bool t.o.ts, .int .u32 t.o.val, .int .u32 t.o.ecr, .bool t.o.hs, .int .i64 t.o.scale, .slice a' n' cap', .slice b' m' bc'] 28) = W at *
  generalize hB : w.heap.size = B at M0
  have HB := Lib.hid hB
  clear hB
  refine (known_any _).mono ?_
  rintro e w1 ⟨rfl, h1⟩
  have M1 := M0.later h1
  have O1 := Lib.hid (HO0.out.later h1)
  clear M0 HO0 h1
  obtain ⟨c0, c1, c2, c3, c4, c5, c6, c7, c8, c9, c10⟩ := M1.s.at_.cs
  go_wp2_with fail
  refine (HE.out _ M1.s.bl M1.s.body O1.out).mono ?_
  rintro e w2 ⟨y, k, c, rfl, hs2, h2⟩
  have M2 := M1.later h2
  have O2 := Lib.hid (O1.out.later h2)
  clear M1 O1 h2 c0 c1 c2 c3 c4 c5 c6 c7 c8 c9 c10
  obtain ⟨c0, c1, c2, c3, c4, c5, c6, c7, c8, c9, c10⟩ := M2.s.at_.cs
  go_wp2_with fail
  refine (HR.out _ M2.s.bl M2.s.body O2.out).mono ?_
  rintro e w3 ⟨z, k', d, rfl, hs3, h3⟩
  have hs2' := hs2.later h3
  have M3 := M2.later h3
  obtain rfl : k' = k := by rw [← hs2'.len, ← hs3.len]
  clear M2 O2 h3 hs2 c0 c1 c2 c3 c4 c5 c6 c7 c8 c9 c10
  obtain ⟨c0, c1, c2, c3, c4, c5, c6, c7, c8, c9, c10⟩ := M3.s.at_.cs
  go_wp2_with fail
  refine (HCL.out _ M3.s.bl M3.s.body).mono ?_
  rintro e w4 ⟨a5, cap5, b5, bc5, rfl, hl5, hb5, h4⟩
  have M4 := (M3.later h4).later (bal (.cells #[.int .i64 s.kind, .int .u32 s.num, .int .i64 s.o.mss, .bool s.o.permit, .bool s.o.ts, .int .u32 s.o.val, .int .u32 s.o.ecr, .bool s.o.hs, .int .i64 s.o.scale, .slice a5 n cap5, .slice b5 m bc5] 28))
  have X4 := sm_new w4 s a5 n cap5 b5 m bc5 hl5 hb5
  have X5 : SM w w4.heap.size s a5 n cap5 b5 m bc5 (w4.alloc (.cells #[.int .i64 s.kind, .int .u32 s.num, .int .i64 s.o.mss, .bool s.o.permit, .bool s.o.ts, .int .u32 s.o.val, .int .u32 s.o.ecr, .bool s.o.hs, .int .i64 s.o.scale, .slice a5 n cap5, .slice b5 m bc5] 28)) := ⟨X4.at_, X4.bl, X4.body, M4.s.below⟩
  have KK : S3 w B s a n cap b m bc t a' n' cap' b' m' bc' w4.heap.size a5 cap5 b5 bc5 EL y k' c z d (w4.alloc (.cells #[.int .i64 s.kind, .int .u32 s.num, .int .i64 s.o.mss, .bool s.o.permit, .bool s.o.ts, .int .u32 s.o.val, .int .u32 s.o.ecr, .bool s.o.hs, .int .i64 s.o.scale, .slice a5 n cap5, .slice b5 m bc5] 28)) := ⟨M4, X5, (hs2'.later h4).later (bal _), (hs3.later h4).later (bal _)⟩
  have hkl : EL.length = k' := hs3.len
  clear M3 h4 hl5 hb5 hs2' hs3 c0 c1 c2 c3 c4 c5 c6 c7 c8 c9 c10 M4 X4 X5
  rw [hkl] at HZ
  have HKL := Lib.hid hkl
  clear hkl
  go_wp2_with fail
  generalize w4.alloc (.cells #[.int .i64 s.kind, .int .u32 s.num, .int .i64 s.o.mss, .bool s.o.permit, .bool s.o.ts, .int .u32 s.o.val, .int .u32 s.o.ecr, .bool s.o.hs, .int .i64 s.o.scale, .slice a5 n cap5, .slice b5 m bc5] 28) = W5 at *
  generalize w4.heap.size = X at *
  have HRX' := Lib.hid (HRX.out a5 cap5 b5 bc5)
  have K0 := KK.later (Below.refl _ _).drew
  go_region_held3 (fun w' => (w'.cell? ⟨B, 0, none⟩ = some (.int .i64 s.kind) ∧ w'.cell? ⟨B, 1, none⟩ = some (.int .u32 s.num) ∧ w'.cell? ⟨B, 2, none⟩ = some (.int .i64 s.o.mss) ∧ w'.cell? ⟨B, 3, none⟩ = some (.bool s.o.permit) ∧ w'.cell? ⟨B, 4, none⟩ = some (.bool s.o.ts) ∧ w'.cell? ⟨B, 5, none⟩ = some (.int .u32 s.o.val) ∧ w'.cell? ⟨B, 6, none⟩ = some (.int .u32 s.o.ecr) ∧ w'.cell? ⟨B, 7, none⟩ = some (.bool s.o.hs) ∧ w'.cell? ⟨B, 8, none⟩ = some (.int .i64 s.o.scale) ∧ w'.cell? ⟨B, 9, none⟩ = some (.slice a n cap) ∧ w'.cell? ⟨B, 10, none⟩ = some (.slice b m bc)) ∧ (w'.cell? ⟨B + 1, 0, none⟩ = some (.int .i64 t.kind) ∧ w'.cell? ⟨B + 1, 1, none⟩ = some (.int .u32 t.num) ∧ w'.cell? ⟨B + 1, 2, none⟩ = some (.int .i64 t.o.mss) ∧ w'.cell? ⟨B + 1, 3, none⟩ = some (.bool t.o.permit) ∧ w'.cell? ⟨B + 1, 4, none⟩ = some (.bool t.o.ts) ∧ w'.cell? ⟨B + 1, 5, none⟩ = some (.int .u32 t.o.val) ∧ w'.cell? ⟨B + 1, 6, none⟩ = some (.int .u32 t.o.ecr) ∧ w'.cell? ⟨B + 1, 7, none⟩ = some (.bool t.o.hs) ∧ w'.cell? ⟨B + 1, 8, none⟩ = some (.int .i64 t.o.scale) ∧ w'.cell? ⟨B + 1, 9, none⟩ = some (.slice a' n' cap') ∧ w'.cell? ⟨B + 1, 10, none⟩ = some (.slice b' m' bc')) ∧ (w'.cell? ⟨X, 0, none⟩ = some (.int .i64 s.kind) ∧ w'.cell? ⟨X, 1, none⟩ = some (.int .u32 s.num) ∧ w'.cell? ⟨X, 2, none⟩ = some (.int .i64 s.o.mss) ∧ w'.cell? ⟨X, 3, none⟩ = some (.bool s.o.permit) ∧ w'.cell? ⟨X, 4, none⟩ = some (.bool s.o.ts) ∧ w'.cell? ⟨X, 5, none⟩ = some (.int .u32 s.o.val) ∧ w'.cell? ⟨X, 6, none⟩ = some (.int .u32 s.o.ecr) ∧ w'.cell? ⟨X, 7, none⟩ = some (.bool s.o.hs) ∧ w'.cell? ⟨X, 8, none⟩ = some (.int .i64 s.o.scale) ∧ w'.cell? ⟨X, 9, none⟩ = some (.slice a5 n cap5) ∧ w'.cell? ⟨X, 10, none⟩ = some (.slice b5 m bc5))) (first | with_reducible exact K9.all | with_reducible exact K8.all | with_reducible exact K7.all | with_reducible exact K6.all | with_reducible exact K5.all | with_reducible exact K4.all | with_reducible exact K3.all | with_reducible exact K2.all | with_reducible exact K1.all | with_reducible exact K0.all | with_reducible exact KK.all | go_keep) (first
    | (go_at_call 15; (with_reducible refine (HS1.out _ _ _ _ _ _ K0.eb K0.ec).mono ?_); rintro e v1 ⟨rfl, h⟩; have K1 := K0.later h; clear K0 h)
    | (go_at_call 16; (with_reducible refine (HC.out _ K1.st.s.bl K1.st.s.body).mono ?_); rintro e v2 ⟨rfl, h⟩; have K2 := K1.later h; clear K1 h)
    | (go_at_call 17; (with_reducible refine (HRC.out _ K2.st.s.bl K2.st.s.body).mono ?_); rintro e v3 ⟨rfl, h⟩; have K3 := K2.later h; clear K2 h)
    | (go_at_call 18; (with_reducible refine (HZ.out _ K3.st.s.bl K3.st.s.body).mono ?_); rintro e v4 ⟨rfl, h⟩; have K4 := K3.later h; clear K3 h)
    | (go_at_call 19; (with_reducible refine (HST.out _ K4.st.s.bl K4.st.s.body K4.st.t.bl K4.st.t.body).mono ?_); rintro e v5 ⟨rfl, h⟩; have K5 := K4.later h; clear K4 h)
    | (go_at_call 20; (with_reducible refine (HRT.out _ K5.st.s.bl K5.st.s.body K5.st.t.bl K5.st.t.body).mono ?_); rintro e v6 ⟨rfl, h⟩; have K6 := K5.later h; clear K5 h)
    | (go_at_call 19; (with_reducible refine (HSS.out _ K6.st.s.bl K6.st.s.body K6.st.s.bl K6.st.s.body).mono ?_); rintro e v7 ⟨rfl, h⟩; have K7 := K6.later h; clear K6 h)
    | (go_at_call 20; (with_reducible refine (HRX'.out _ K7.x.bl K7.x.body K7.st.s.bl K7.st.s.body).mono ?_); rintro e v8 ⟨rfl, h⟩; have K8 := K7.later h; clear K7 h)
    | (go_at_call 11; (with_reducible refine (known_any _).mono ?_); rintro e v9 ⟨rfl, h⟩; have K9 := K8.later h; clear K8 h))
  all_goals
    have hb9 := Lib.hid K9.st.s.below
    clear K9
    go_wp2
    go_ret
    exact ⟨rfl, by first | exact hb9.out | (rw [← HB.out]; exact hb9.out)⟩
end Go.Proofs.Ytdfenlagokndkaa.sg
