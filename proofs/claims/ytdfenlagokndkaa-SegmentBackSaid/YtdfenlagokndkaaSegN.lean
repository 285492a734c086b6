/-
  The walk of the law SegmentTold.
-/
import Derived.Test.YtdfenlagokndkaaSegK
namespace Go.Proofs.Ytdfenlagokndkaa.sg
open Go.RowKit aid mem oc op sm
set_option linter.unusedVariables false

theorem xor_fin : ∀ (x : Fin 256) (j : Fin 8), 0 ≤ bits .xor .u8 (x.val : Int) (2 ^ j.val % 256) ∧ bits .xor .u8 (x.val : Int) (2 ^ j.val % 256) ≤ 255 ∧ bits .xor .u8 (x.val : Int) (2 ^ j.val % 256) ≠ (x.val : Int) := by decide +kernel
theorem xor_bit (x q : Int) (hx : 0 ≤ x ∧ x ≤ 255) (hq : 0 ≤ q) : 0 ≤ bits .xor .u8 x (2 ^ (q % 8).toNat % 256) ∧ bits .xor .u8 x (2 ^ (q % 8).toNat % 256) ≤ 255 ∧ bits .xor .u8 x (2 ^ (q % 8).toNat % 256) ≠ x := by
  have h := xor_fin ⟨x.toNat, by omega⟩ ⟨(q % 8).toNat, by omega⟩
  simp only at h
  rwa [Int.toNat_of_nonneg hx.1] at h

set_option maxRecDepth 100000 in
set_option maxHeartbeats 6400000 in
theorem walk_SegmentTold (w : World) (s : Seg) (a : Option Addr) (n cap : Nat) (b : Option Addr) (m bc : Nat) (hf : s.Fit) (hl : BlA w a n cap s.o.bl) (hb : SlA .u8 w b m bc s.body) (hbo : Old w b bc) (at_ : Int) (hat : -9223372036854775808 ≤ at_ ∧ at_ ≤ 9223372036854775807) (bit : Int) (hbit : 0 ≤ bit ∧ bit ≤ 255) :
    Calls Try.prog 5 #[segV s a n cap b m bc, .int .i64 at_, .int .u8 bit] w fun e w' => e = .returned (.bool true) ∧ Below w.heap.size w w' := by
  have M0 := sm_new w s a n cap b m bc hl hb
  have HO0 := Lib.hid (hbo.later (bal (w := w) (.cells #[.int .i64 s.kind, .int .u32 s.num, .int .i64 s.o.mss, .bool s.o.permit, .bool s.o.ts, .int .u32 s.o.val, .int .u32 s.o.ecr, .bool s.o.hs, .int .i64 s.o.scale, .slice a n cap, .slice b m bc] 28)))
  clear hl hb hbo
  by_cases hk : schk s = 0
  · have HE := Lib.hid (fun W h1 h2 h3 => sencode_ok s a n cap b m bc W hf h1 h2 h3 hk)
    have hlen := senc_len s
    have hl2 : 8 ≤ (sencL s).length ∧ (sencL s).length ≤ 2096 := by have := (chk0_bl (schk0 hk).2.1).2; have := (schk0 hk).2.2.2; omega
    have HBD := Lib.hid (bd_senc s hf (schk0 hk).2.1)
    have HFN := Lib.hid (senc_fine s hf (schk0 hk).2.1)
    unfold RetEnc at HE
    generalize sencL s = L at *
    obtain ⟨k, hkk⟩ : ∃ k, L.length = k := ⟨_, rfl⟩
    rw [hkk] at HE hl2
    obtain ⟨hk8, hk96⟩ := hl2
    have HKK := Lib.hid hkk
    clear hk hkk hlen
    by_cases hin : 0 ≤ at_ ∧ at_ < k
    · obtain ⟨i, rfl⟩ : ∃ i : Nat, at_ = i := ⟨at_.toNat, by omega⟩
      obtain ⟨hi0, hik⟩ := hin
      go_enter Try.func5, Try.ntmps5
      go_wp2_with fail
      generalize w.alloc (.cells #[.int .i64 s.kind, .int .u32 s.num, .int .i64 s.o.mss, .bool s.o.permit, .bool s.o.ts, .int .u32 s.o.val, .int .u32 s.o.ecr, .bool s.o.hs, .int .i64 s.o.scale, .slice a n cap, .slice b m bc] 28) = W at *
      generalize hB : w.heap.size = B at M0
      have HB := Lib.hid hB
      clear hB
      refine (known_any _).mono ?_
      rintro e w1 ⟨rfl, h1⟩
      have M1 := M0.later h1
      have O1 := Lib.hid (HO0.out.later h1)
      clear M0 HO0 h1
      obtain ⟨c0, c1, c2, c3, c4, c5, c6, c7, c8, c9, c10⟩ := M1.at_.cs
      go_wp2_with fail
      refine (HE.out _ M1.bl M1.body O1.out).mono ?_
      rintro e w2 ⟨v, rfl, hown, h2⟩
      have M2 := M1.later h2
      have z1 := M1.below.size
      clear M1 O1 c0 c1 c2 c3 c4 c5 c6 c7 c8 c9 c10
      obtain ⟨g, c3', hv⟩ : ∃ g c, v = .slice (some ⟨g, 0, none⟩) k c := by
        rcases hown.2 with ⟨_, h0⟩ | ⟨g, c, _, hv, _⟩
        · exact absurd h0 (by omega)
        · exact ⟨g, c, hv⟩
      subst hv
      have hcell := hown.cellAt i (by omega)
      have hfz := hown.frozenAt i
      rw [show (ints .u8 L)[i]? = some (.int .u8 (L.getD i 0)) from by unfold ints; exact getD_map_some (by rw [HKK.out]; omega)] at hcell
      have hx := bd_at HBD.out i
      have HOW := Lib.hid hown
      have HH2 := Lib.hid h2
      obtain ⟨x, hxx⟩ : ∃ x, L.getD i 0 = x := ⟨_, rfl⟩
      rw [hxx] at hcell hx
      have HX := Lib.hid hxx
      obtain ⟨v1, v2, v3⟩ := xor_bit x bit hx hbit.1
      have HBAD := Lib.hid (fun c W h => sdecode_bad (L.set i (bits .xor .u8 x (2 ^ (bit % 8).toNat % 256))) (some ⟨g, 0, none⟩) k c W h (fun y hy => by
        rcases List.mem_or_eq_of_mem_set hy with h | h
        · exact HBD.out y h
        · omega) hk8 hk96 (told L i _ HBD.out (by rw [HKK.out]; omega) ⟨v1, v2⟩ (by rw [HX.out]; exact v3) HFN.out))
      have hst := HOW.out.stored i (.int .u8 (bits .xor .u8 x (2 ^ (bit % 8).toNat % 256)))
      rw [show (ints .u8 L).set i (.int .u8 (bits .xor .u8 x (2 ^ (bit % 8).toNat % 256))) = ints .u8 (L.set i (bits .xor .u8 x (2 ^ (bit % 8).toNat % 256))) from by unfold ints; rw [List.map_set]] at hst
      generalize hyy : bits .xor .u8 x (2 ^ (bit % 8).toNat % 256) = y at *
      have HY := Lib.hid hyy
      clear hyy
      have HST := Lib.hid hst
      have hg : w.heap.size ≤ g := by have := (HOW.out.lt g rfl).1; omega
      have hB3 : Below w.heap.size w (w2.setCell ⟨g, i, none⟩ (.int .u8 y)) := M2.below.setCell (by simpa using hg) _
      have HB3 := Lib.hid hB3
      clear hown h2 hxx v1 v2 v3 hst hB3 hg M2
      go_wp2_with fail
      rw [HY.out]
      obtain ⟨a4, c4, hv4, hs4, _⟩ := sl_of_own HST.out.1
      injection hv4 with e1 _ e3
      subst e1 e3
      refine (HBAD.out _ _ hs4).mono ?_
      rintro e w4 ⟨rfl, h4⟩
      have hB4 := Lib.hid (HB3.out.trans (h4.mono HB3.out.size))
      clear h4 hs4
      simp only [Seg.zero, Opt.zero]
      go_wp2_with fail
      generalize hw5 : w4.alloc _ = w5
      have hB5 : Below w.heap.size w w5 := by rw [← hw5]; exact hB4.out.alloc hB4.out.size _
      clear hw5
      refine (known_any _).mono ?_
      rintro e w6 ⟨rfl, h6⟩
      have hB6 := hB5.trans (h6.mono hB5.size)
      clear h6 hB5
      go_wp2
      go_ret
      exact ⟨rfl, by first | exact hB6 | (rw [← HB.out]; exact hB6)⟩
    · go_enter Try.func5, Try.ntmps5
      go_wp2_with fail
      generalize w.alloc (.cells #[.int .i64 s.kind, .int .u32 s.num, .int .i64 s.o.mss, .bool s.o.permit, .bool s.o.ts, .int .u32 s.o.val, .int .u32 s.o.ecr, .bool s.o.hs, .int .i64 s.o.scale, .slice a n cap, .slice b m bc] 28) = W at *
      generalize hB : w.heap.size = B at M0
      have HB := Lib.hid hB
      clear hB
      refine (known_any _).mono ?_
      rintro e w1 ⟨rfl, h1⟩
      have M1 := M0.later h1
      have O1 := Lib.hid (HO0.out.later h1)
      clear M0 HO0 h1
      obtain ⟨c0, c1, c2, c3, c4, c5, c6, c7, c8, c9, c10⟩ := M1.at_.cs
      go_wp2_with fail
      refine (HE.out _ M1.bl M1.body O1.out).mono ?_
      rintro e w2 ⟨v, rfl, hown, h2⟩
      obtain ⟨a3, c3', hv⟩ := own_form hown
      subst hv
      have M2 := M1.later h2
      clear M1 O1 hown h2 c0 c1 c2 c3 c4 c5 c6 c7 c8 c9 c10
      by_cases hneg : at_ < 0
      · clear hin
        go_wp2_with fail
        refine (known_any _).mono ?_
        rintro e w6 ⟨rfl, h6⟩
        have M3 := M2.later h6
        clear h6 M2
        go_wp2
        go_ret
        exact ⟨rfl, by first | exact M3.below | (rw [← HB.out]; exact M3.below)⟩
      · obtain ⟨i, rfl⟩ : ∃ i : Nat, at_ = i := ⟨at_.toNat, by omega⟩
        have hki : k ≤ i := by omega
        clear hin hneg
        go_wp2_with fail
        refine (known_any _).mono ?_
        rintro e w6 ⟨rfl, h6⟩
        have M3 := M2.later h6
        clear h6 M2
        go_wp2
        go_ret
        exact ⟨rfl, by first | exact M3.below | (rw [← HB.out]; exact M3.below)⟩
  · have HE := Lib.hid (fun W h1 h2 => sencode_no s a n cap b m bc W hf h1 h2 hk)
    have hne : (schk s != 0) = true := by simpa using hk
    generalize schk s = r at *
    clear hk HO0
    go_enter Try.func5, Try.ntmps5
    go_wp2_with fail
    generalize w.alloc (.cells #[.int .i64 s.kind, .int .u32 s.num, .int .i64 s.o.mss, .bool s.o.permit, .bool s.o.ts, .int .u32 s.o.val, .int .u32 s.o.ecr, .bool s.o.hs, .int .i64 s.o.scale, .slice a n cap, .slice b m bc] 28) = W at *
    generalize hB : w.heap.size = B at M0
    have HB := Lib.hid hB
    clear hB
    refine (known_any _).mono ?_
    rintro e w1 ⟨rfl, h1⟩
    have M1 := M0.later h1
    clear M0 h1
    obtain ⟨c0, c1, c2, c3, c4, c5, c6, c7, c8, c9, c10⟩ := M1.at_.cs
    go_wp2_with fail
    refine (HE.out _ M1.bl M1.body).mono ?_
    rintro e w2 ⟨rfl, h2⟩
    have M2 := M1.later h2
    clear M1 h2 c0 c1 c2 c3 c4 c5 c6 c7 c8 c9 c10
    go_wp2_with fail
    refine (known_any _).mono ?_
    rintro e w6 ⟨rfl, h6⟩
    have M3 := M2.later h6
    clear h6 M2
    go_wp2
    go_ret
    exact ⟨rfl, by first | exact M3.below | (rw [← HB.out]; exact M3.below)⟩
end Go.Proofs.Ytdfenlagokndkaa.sg
