/-
  The walks of the laws SegmentBack and SegmentTold.
-/
import Derived.Test.YtdfenlagokndkaaSegK
namespace Go.Proofs.Ytdfenlagokndkaa.sg
open Go.RowKit aid mem oc op sm
set_option linter.unusedVariables false

set_option maxRecDepth 100000 in
set_option maxHeartbeats 6400000 in
theorem walk_SegmentBack (w : World) (s : Seg) (a : Option Addr) (n cap : Nat) (b : Option Addr) (m bc : Nat) (hf : s.Fit) (hl : BlA w a n cap s.o.bl) (hb : SlA .u8 w b m bc s.body) (hbo : Old w b bc) :
    Calls Try.prog 4 #[segV s a n cap b m bc] w fun e w' => e = .returned (.bool true) ∧ Below w.heap.size w w' := by
  have M0 := sm_new w s a n cap b m bc hl hb
  have HO0 := Lib.hid (hbo.later (bal (w := w) (.cells #[.int .i64 s.kind, .int .u32 s.num, .int .i64 s.o.mss, .bool s.o.permit, .bool s.o.ts, .int .u32 s.o.val, .int .u32 s.o.ecr, .bool s.o.hs, .int .i64 s.o.scale, .slice a n cap, .slice b m bc] 28)))
  clear hl hb hbo
  by_cases hk : schk s = 0
  · have hbd := hf.body
    have HBD := Lib.hid hbd
    have HE := Lib.hid (fun W h1 h2 h3 => sencode_ok s a n cap b m bc W hf h1 h2 h3 hk)
    have HD := Lib.hid (fun x k c W h => sdecode_ok s x k c W hf hk h)
    have HZ := Lib.hid (fun W h1 h2 => ssize_any s a n cap b m bc W hf h1 h2)
    have hz : sizeS s = ((sencL s).length : Int) := by unfold sizeS; rw [if_pos hk]
    rw [hz] at HZ
    have HS := Lib.hid (fun a' n' cap' b' m' bc' W h1 h2 h3 h4 => rssame_any s s a n cap b m bc a' n' cap' b' m' bc' W h1 h2 h3 h4 hbd hbd)
    rw [segSame_self] at HS
    unfold DecPost at HD
    unfold RetEnc at HE
    generalize sencL s = L at *
    obtain ⟨k, hkk⟩ : ∃ k, L.length = k := ⟨_, rfl⟩
    rw [hkk] at HE HZ
    have HKK := Lib.hid hkk
    clear hbd hk hz hkk
    go_enter Try.func4, Try.ntmps4
    go_wp2_with fail
    generalize w.alloc (.cells #[.int .i64 s.kind, .int .u32 s.num, .int .i64 s.o.mss, .bool s.o.permit, .bool s.o.ts, .int .u32 s.o.val, .int .u32 s.o.ecr, .bool s.o.hs, .int .i64 s.o.scale, .slice a n cap, .slice b m bc] 28) = W at *
    generalize hB : w.heap.size = B at M0
    have HB := Lib.hid hB
    clear hB
    refine (known_any _).mono ?_
    rintro e w1 ⟨rfl, h1⟩
    have M1 := M0.later h1
    have O1 := Lib.hid (HO0.out.later h1)
    clear M0 HO0 h1
    obtain ⟨c0, c1, c2, c3, c4, c5, c6, c7, c8, c9, c10⟩ := M1.at_.cs
    go_wp2_with fail
    refine (HE.out _ M1.bl M1.body O1.out).mono ?_
    rintro e w2 ⟨v, rfl, hown, h2⟩
    obtain ⟨a3, c3', hv, hs3, _⟩ := sl_of_own hown
    subst hv
    have M2 := M1.later h2
    clear M1 O1 hown h2 c0 c1 c2 c3 c4 c5 c6 c7 c8 c9 c10
    go_wp2_with fail
    refine (HD.out a3 k c3' w2 hs3).mono ?_
    rintro e w3 ⟨a', n', cap', b', m', bc', rfl, hl', hb', _, h3⟩
    have M3 := M2.later h3
    have M4 := M3.later (bal (.cells #[.int .i64 s.kind, .int .u32 s.num, .int .i64 s.o.mss, .bool s.o.permit, .bool s.o.ts, .int .u32 s.o.val, .int .u32 s.o.ecr, .bool s.o.hs, .int .i64 s.o.scale, .slice a' n' cap', .slice b' m' bc'] 28))
    have T4 := sm_new w3 s a' n' cap' b' m' bc' hl' hb'
    clear M2 h3 hl' hb' hs3
    obtain ⟨c0, c1, c2, c3, c4, c5, c6, c7, c8, c9, c10⟩ := M3.at_.cs
    have nb := M3.at_.lt
    go_wp2_with fail
    refine (HS.out a' n' cap' b' m' bc' _ M4.bl M4.body T4.bl T4.body).mono ?_
    rintro e w5 ⟨rfl, h5⟩
    have M5 := M4.later h5
    clear M4 T4 h5 c0 c1 c2 c3 c4 c5 c6 c7 c8 c9 c10 nb M3
    obtain ⟨c0, c1, c2, c3, c4, c5, c6, c7, c8, c9, c10⟩ := M5.at_.cs
    go_wp2_with fail
    refine (HZ.out _ M5.bl M5.body).mono ?_
    rintro e w6 ⟨rfl, h6⟩
    have M6 := M5.later h6
    clear M5 h6 c0 c1 c2 c3 c4 c5 c6 c7 c8 c9 c10
    go_wp2_with fail
    refine (known_any _).mono ?_
    rintro e w7 ⟨rfl, h7⟩
    have M7 := M6.later h7
    clear M6 h7
    go_wp2
    go_ret
    exact ⟨rfl, by first | exact M7.below | (rw [← HB.out]; exact M7.below)⟩
  · have HE := Lib.hid (fun W h1 h2 => sencode_no s a n cap b m bc W hf h1 h2 hk)
    have HZ := Lib.hid (fun W h1 h2 => ssize_any s a n cap b m bc W hf h1 h2)
    have hz : sizeS s = 0 := by unfold sizeS; rw [if_neg hk]
    rw [hz] at HZ
    have HC := Lib.hid (fun W h1 h2 => rscheck_any s a n cap b m bc W h1 h2)
    have hne : (schk s != 0) = true := by simpa using hk
    generalize schk s = r at *
    clear hz hk HO0
    go_enter Try.func4, Try.ntmps4
    go_wp2_with fail
    generalize w.alloc (.cells #[.int .i64 s.kind, .int .u32 s.num, .int .i64 s.o.mss, .bool s.o.permit, .bool s.o.ts, .int .u32 s.o.val, .int .u32 s.o.ecr, .bool s.o.hs, .int .i64 s.o.scale, .slice a n cap, .slice b m bc] 28) = W at *
    generalize hB : w.heap.size = B at M0
    have HB := Lib.hid hB
    clear hB
    refine (known_any _).mono ?_
    rintro e w1 ⟨rfl, h1⟩
    have M1 := M0.later h1
    clear M0 h1
    obtain ⟨c0, c1, c2, c3, c4, c5, c6, c7, c8, c9, c10⟩ := M1.at_.cs
    go_wp2_with fail
    refine (HE.out _ M1.bl M1.body).mono ?_
    rintro e w2 ⟨rfl, h2⟩
    have M2 := M1.later h2
    clear M1 h2 c0 c1 c2 c3 c4 c5 c6 c7 c8 c9 c10
    obtain ⟨c0, c1, c2, c3, c4, c5, c6, c7, c8, c9, c10⟩ := M2.at_.cs
    go_wp2_with fail
    refine (HZ.out _ M2.bl M2.body).mono ?_
    rintro e w3 ⟨rfl, h3⟩
    have M3 := M2.later h3
    clear M2 h3 c0 c1 c2 c3 c4 c5 c6 c7 c8 c9 c10
    obtain ⟨c0, c1, c2, c3, c4, c5, c6, c7, c8, c9, c10⟩ := M3.at_.cs
    go_wp2_with fail
    refine (HC.out _ M3.bl M3.body).mono ?_
    rintro e w4 ⟨rfl, h4⟩
    have M4 := M3.later h4
    clear M3 h4 c0 c1 c2 c3 c4 c5 c6 c7 c8 c9 c10
    go_wp2_with fail
    refine (known_any _).mono ?_
    rintro e w7 ⟨rfl, h7⟩
    have M7 := M4.later h7
    clear M4 h7
    go_wp2
    go_ret
    exact ⟨rfl, by first | exact M7.below | (rw [← HB.out]; exact M7.below)⟩
end Go.Proofs.Ytdfenlagokndkaa.sg
