/-
  Package segment, the reference: Encode.
-/
import Derived.Test.YtdfenlagokndkaaSegJ
import Derived.Test.YtdfenlagokndkaaOptV
namespace Go.Proofs.Ytdfenlagokndkaa.sg
open Go.RowKit aid mem oc op sm
set_option linter.unusedVariables false

theorem own_new (w : World) (base : Nat) (l : List Int) (hb : base ≤ w.heap.size) (hm : l.length ≤ maxLen) : (w.alloc (.cells (ints .u8 l).toArray 5)).ownsRow base 5 1 (.slice (some ⟨w.heap.size, 0, none⟩) l.length l.length) l.length (ints .u8 l) :=
  ⟨by simp [ints], .inr ⟨w.heap.size, l.length, _, rfl, hb, heap_alloc_new w _, Nat.le_refl _, hm, by simp [ints], by simp [ints, List.take_of_length_le]⟩⟩

set_option maxRecDepth 100000 in
set_option maxHeartbeats 6400000 in
theorem rsencode_ok (s : Seg) (a : Option Addr) (n cap : Nat) (b : Option Addr) (m bc : Nat) (w : World) (hf : s.Fit) (hl : BlA w a n cap s.o.bl) (hb : SlA .u8 w b m bc s.body) (hbo : Old w b bc) (hk : schk s = 0) :
    Calls Try.prog 13 #[segV s a n cap b m bc] w (RetEnc (sencL s) w) := by
  obtain ⟨i0, hi, hz0, hz1, hz2⟩ := info_parts info_u8
  have M0 := sm_new w s a n cap b m bc hl hb
  have O0 := hbo.later (bal (w := w) (.cells #[.int .i64 s.kind, .int .u32 s.num, .int .i64 s.o.mss, .bool s.o.permit, .bool s.o.ts, .int .u32 s.o.val, .int .u32 s.o.ecr, .bool s.o.hs, .int .i64 s.o.scale, .slice a n cap, .slice b m bc] 28))
  have HC := Lib.hid (fun W h1 h2 => rscheck_any s a n cap b m bc W h1 h2)
  rw [hk] at HC
  have HE := Lib.hid (fun W h1 => rencode_ok s.o a n cap W hf.o h1 (schk0 hk).2.1)
  unfold optCells EncPost at HE
  have hlen := hb.len
  have hmb := (schk0 hk).2.2.2
  have ho40 := (chk0_bl (schk0 hk).2.1).2
  have holen := enc_len s.o
  have hk8 := IntKind.wrap_u8 s.kind
  have HN := Lib.hid (fun W => number_ref s.num 4 W hf.num (by omega))
  unfold RetRow at HN
  rw [by4 s.num hf.num] at HN
  have HBD0 : Hid (∀ x ∈ layL s 0, 0 ≤ x ∧ x ≤ 255) := Lib.hid (bd_lay s hf (schk0 hk).2.1 0 (by omega))
  have hsb := sumB_bd (layL s 0)
  have HLAY0 : Hid (layL s 0 = [s.kind % 256, (((enc s.o).length / 4 : Nat) : Int) % 256, 0, 0] ++ four s.num ++ enc s.o ++ s.body) := Lib.hid (by unfold layL two; simp)
  have HLAYK : Hid (sencL s = ((layL s 0).set 2 ((65535 - sumB (layL s 0)) / 256)).set 3 ((65535 - sumB (layL s 0)) % 256)) := Lib.hid (by
    show layL s (65535 - sumB (layL s 0)) = _
    generalize sumB (layL s 0) = σ
    unfold layL two
    simp)
  clear hl hb hbo hk
  go_enter Try.func13, Try.ntmps13
  go_wp2_with fail
  generalize w.alloc (.cells #[.int .i64 s.kind, .int .u32 s.num, .int .i64 s.o.mss, .bool s.o.permit, .bool s.o.ts, .int .u32 s.o.val, .int .u32 s.o.ecr, .bool s.o.hs, .int .i64 s.o.scale, .slice a n cap, .slice b m bc] 28) = W at *
  generalize hB : w.heap.size = B at M0
  have HB := Lib.hid hB
  clear hB
  refine (HC.out _ M0.bl M0.body).mono ?_
  rintro e w1 ⟨rfl, h1⟩
  have M1 := M0.later h1
  have O1 := Lib.hid (O0.later h1)
  clear M0 h1 O0
  obtain ⟨c0, c1, c2, c3, c4, c5, c6, c7, c8, c9, c10⟩ := M1.at_.cs
  go_wp2_with fail
  refine (HE.out _ M1.bl).mono ?_
  rintro e w2 ⟨v, rfl, hown, h2⟩
  obtain ⟨oa, oc, hv, hs2, hob⟩ := sl_of_own hown
  subst hv
  have E2 : ES w B s a n cap b m bc oa (enc s.o).length oc w2 := ⟨M1.later h2, hs2, O1.out.later h2, old_own hown⟩
  obtain ⟨on, hon⟩ : ∃ on, (enc s.o).length = on := ⟨_, rfl⟩
  rw [hon] at E2 HLAY0 holen ⊢
  have HON := Lib.hid hon
  have hk9 : IntKind.u8.wrap ((on : Int) / 4) = ((on : Int) / 4) % 256 := IntKind.wrap_u8 _
  rw [show ((on / 4 : Nat) : Int) = (on : Int) / 4 by omega] at HLAY0
  have hmost := E2.ob.most
  have hon40 : on ≤ 40 := by omega
  have HOL := Lib.hid holen
  clear holen ho40
  have hm2 : m ≤ 2048 := by omega
  have HLEN := Lib.hid hlen
  clear hlen hmb
  clear M1 hown h2 hs2 hob O1 hon c0 c1 c2 c3 c4 c5 c6 c7 c8 c9 c10
  have HRF := Lib.hid (fun (W : World) (x : Option Addr) (k c : Nat) (h : SlA .u8 W x k c (layL s 0)) => ref_of h HBD0.out)
  generalize layL s 0 = L0 at *
  generalize sencL s = L1 at *
  generalize sumB L0 = σ at *
  generalize hEO : enc s.o = eo at *
  have HEO := Lib.hid hEO
  generalize hFO : four s.num = fo at *
  have HFO := Lib.hid hFO
  have w8a : IntKind.u8.wrap ((65535 - σ) / 256) = (65535 - σ) / 256 := by rw [IntKind.wrap_u8]; omega
  have w8b : IntKind.u8.wrap ((65535 - σ) % 256) = (65535 - σ) % 256 := by rw [IntKind.wrap_u8]; omega
  clear hEO hFO HBD0
  have nb := E2.sm.at_.lt
  have c0 := E2.sm.at_.cs.c0
  have c1 := E2.sm.at_.cs.c1
  have own3 := own_new w2 w2.heap.size [s.kind % 256, ((on : Int) / 4) % 256, 0, 0] (Nat.le_refl _) (by simp [maxLen])
  have hB3 : Below w2.heap.size w2 (w2.alloc (.cells (ints .u8 [s.kind % 256, ((on : Int) / 4) % 256, 0, 0]).toArray 5)) := bal _
  have HA3 : Hid ((ints .u8 [s.kind % 256, ((on : Int) / 4) % 256, 0, 0]).toArray = #[.int .u8 (s.kind % 256), .int .u8 (((on : Int) / 4) % 256), .int .u8 0, .int .u8 0]) := Lib.hid rfl
  rw [HA3.out] at own3 hB3
  have own3' : (w2.alloc (.cells #[.int .u8 (s.kind % 256), .int .u8 (((on : Int) / 4) % 256), .int .u8 0, .int .u8 0] 5)).ownsRow w2.heap.size 5 1 (.slice (some ⟨w2.heap.size, 0, none⟩) 4 4) 4 (ints .u8 [s.kind % 256, ((on : Int) / 4) % 256, 0, 0]) := own3
  have HOWN3 := Lib.hid own3'
  have HB3 := Lib.hid hB3
  clear own3 own3' hB3 HA3
  generalize hL4 : [s.kind % 256, ((on : Int) / 4) % 256, 0, 0] = l4 at HOWN3 HLAY0
  clear hL4
  go_wp2_with fail
  generalize hW3 : (w2.alloc (.cells #[.int .u8 (s.kind % 256), .int .u8 (((on : Int) / 4) % 256), .int .u8 0, .int .u8 0] 5)) = W3 at *
  clear hW3
  refine (HN.out _).mono ?_
  rintro e w4 ⟨v4, rfl, hn4, h4⟩
  obtain ⟨a4, c4, hv4, hs4, _⟩ := sl_of_own hn4
  subst hv4
  have own4 := ownB h4 HOWN3.out
  have hB4 := HB3.out.trans (h4.mono HB3.out.size)
  have hz4 := hB4.size
  have hsrc4 := hs4.src Try.underlying26
  have HE2 := Lib.hid E2
  clear h4 hn4 c0 c1 E2
  go_wp2_with (first
    | (at_builtin; refine wpList_append_any _ rfl (.tmp 28) (.tmp 31) 26 26 rfl w2.heap.size 5 i0 (.int .u8 0) 1 Try.underlying26 hi hz0 hz1 hz2 rfl (.slice (some ⟨w2.heap.size, 0, none⟩) 4 4) 4 (ints .u8 l4) rfl own4 (.slice a4 4 c4) rfl 4 (ints .u8 fo) hsrc4 (by unfold maxLen; omega) (by omega) hz4 ?_; intro a5 c5 w5 own5 hg5 _; have hB5 := hB4.grown hg5 hz4 (fun q hq => (by simp [Value.ownBlock] at hq; omega)); have hz5 := hB5.size; have hsrc5 := (HE2.out.ob.later hB5).src Try.underlying26; rw [HEO.out] at hsrc5; clear own4 hB4 hz4 hsrc4 hg5 hs4)
    | (at_builtin; refine wpList_append_any _ rfl (.tmp 33) (.tmp 34) 26 26 rfl w2.heap.size 5 i0 (.int .u8 0) 1 Try.underlying26 hi hz0 hz1 hz2 rfl (.slice a5 (4 + 4) c5) (4 + 4) (ints .u8 l4 ++ ints .u8 fo) rfl own5 (.slice oa on oc) rfl on (ints .u8 eo) hsrc5 (by unfold maxLen; omega) (by omega) hz5 ?_; intro a6 c6 w6 own6 hg6 _; have hB6 := hB5.grown hg6 hz5 (fun q hq => (own5.lt q hq).1); have hz6 := hB6.size; have hsrc6 := (HE2.out.sm.body.later hB6).src Try.underlying26; have k10 := (HE2.out.later hB6).sm.at_.cs.c10; clear own5 hB5 hz5 hsrc5 hg6)
    | (at_builtin; refine wpList_append_any _ rfl (.tmp 36) (.tmp 38) 26 26 rfl w2.heap.size 5 i0 (.int .u8 0) 1 Try.underlying26 hi hz0 hz1 hz2 rfl (.slice a6 (4 + 4 + on) c6) (4 + 4 + on) (ints .u8 l4 ++ ints .u8 fo ++ ints .u8 eo) rfl own6 (.slice b m bc) rfl m (ints .u8 s.body) hsrc6 (by unfold maxLen; omega) (by omega) hz6 ?_; intro a7 c7 w7 own7 hg7 _; have hB7 := hB6.grown hg7 hz6 (fun q hq => (own6.lt q hq).1); clear own6 hB6 hz6 hsrc6 hg7 k10))
  rw [← ints_append, ← ints_append, ← ints_append, ← HLAY0.out, show 4 + 4 + on + m = 8 + on + m by omega] at own7
  obtain ⟨N, hN⟩ : ∃ N, 8 + on + m = N := ⟨_, rfl⟩
  rw [hN] at own7 ⊢
  have hN4 : 4 ≤ N := by omega
  have hN9 : N ≤ 3000 := by omega
  have HN' := Lib.hid hN
  obtain ⟨g, hg⟩ : ∃ g, a7 = some ⟨g, 0, none⟩ := by
    rcases own7.2 with ⟨_, h0⟩ | ⟨g, c, cur, hv, _⟩
    · exact absurd h0 (by omega)
    · injection hv with hv _ _
      exact ⟨g, hv⟩
  subst hg
  have hlen0 : L0.length = N := by have := own7.1; simpa [ints] using this
  have k2 := own7.cellAt 2 (by omega)
  have k3 := own7.cellAt 3 (by omega)
  rw [show (ints .u8 L0)[2]? = some (.int .u8 (L0.getD 2 0)) from by unfold ints; exact getD_map_some (by omega)] at k2
  rw [show (ints .u8 L0)[3]? = some (.int .u8 (L0.getD 3 0)) from by unfold ints; exact getD_map_some (by omega)] at k3
  have f2 := own7.frozenAt 2
  have f3 := own7.frozenAt 3
  have hst := ((own7.stored 2 (.int .u8 ((65535 - σ) / 256))).1.stored 3 (.int .u8 ((65535 - σ) % 256))).1
  rw [show ((ints .u8 L0).set 2 (.int .u8 ((65535 - σ) / 256))).set 3 (.int .u8 ((65535 - σ) % 256)) = ints .u8 ((L0.set 2 ((65535 - σ) / 256)).set 3 ((65535 - σ) % 256)) from by unfold ints; rw [List.map_set, List.map_set], ← HLAYK.out] at hst
  have HST := Lib.hid hst
  have hL1 : Hid (L1.length = N) := Lib.hid (by rw [HLAYK.out]; simp [hlen0])
  have hgB : w2.heap.size ≤ g := (own7.lt g rfl).1
  have hB8 := (hB7.setCell (p := ⟨g, 2, none⟩) hgB (.int .u8 ((65535 - σ) / 256))).setCell (p := ⟨g, 3, none⟩) hgB (.int .u8 ((65535 - σ) % 256))
  have HB8 := Lib.hid (HE2.out.sm.below.trans (hB8.mono HE2.out.sm.below.size))
  obtain ⟨a8, c8, hv8, hs8, _⟩ := sl_of_own own7
  injection hv8 with e1 _ e3
  subst e1 e3
  have HS8 := Lib.hid hs8
  have hz2 := HE2.out.sm.below.size
  have HGB := Lib.hid hgB
  clear own7 hst hB7 hB8 hs8 hN hlen0
  refine (HRF.out _ _ _ _ HS8.out).mono ?_
  rintro e w8 ⟨rfl, rfl⟩
  go_wp2_with fail
  go_ret2
  exact ⟨_, rfl, by rw [hL1.out]; exact own_base (base' := w.heap.size) HST.out (fun q hq => by have := (HST.out.lt q hq).1; omega), HB8.out⟩
end Go.Proofs.Ytdfenlagokndkaa.sg
