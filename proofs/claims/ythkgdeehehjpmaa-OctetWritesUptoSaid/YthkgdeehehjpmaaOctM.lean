/-
  The walks of the laws of layer 2: a writer and a reader that are none.
-/
import Derived.Test.YthkgdeehehjpmaaOctL
namespace Go.Proofs.Ythkgdeehehjpmaa.oc
open Go.RowKit aid mem
set_option linter.unusedVariables false

theorem wall_nil (a : Option Addr) (n cap : Nat) (w : World) : Calls Try.prog 28 #[.pointer none, .slice a n cap] w fun e w' => e = .returned (.tuple #[]) ∧ w = w' := by
  go_enter Try.func28, Try.ntmps28
  go_wp2
  go_end0
  exact ⟨rfl, rfl⟩

theorem wone_nil (b : Int) (w : World) (hb : 0 ≤ b ∧ b ≤ 255) : Calls Try.prog 24 #[.pointer none, .int .u8 b] w fun e w' => e = .returned (.tuple #[]) ∧ Below w.heap.size w w' := by
  go_enter Try.func24, Try.ntmps24
  go_wp2_with fail
  refine (wall_nil _ _ _ _).mono ?_
  rintro e w' ⟨rfl, rfl⟩
  go_wp2_with fail
  go_end0
  exact ⟨rfl, (Below.refl _ _).alloc (Nat.le_refl _) _⟩

theorem wtwo_nil (b : Int) (w : World) (hb : 0 ≤ b ∧ b ≤ 65535) : Calls Try.prog 26 #[.pointer none, .int .u16 b] w fun e w' => e = .returned (.tuple #[]) ∧ Below w.heap.size w w' := by
  go_enter Try.func26, Try.ntmps26
  go_wp2_with fail
  refine (wall_nil _ _ _ _).mono ?_
  rintro e w' ⟨rfl, rfl⟩
  go_wp2_with fail
  go_end0
  exact ⟨rfl, (Below.refl _ _).alloc (Nat.le_refl _) _⟩

theorem wfour_nil (b : Int) (w : World) (hb : 0 ≤ b ∧ b ≤ 4294967295) : Calls Try.prog 27 #[.pointer none, .int .u32 b] w fun e w' => e = .returned (.tuple #[]) ∧ Below w.heap.size w w' := by
  go_enter Try.func27, Try.ntmps27
  go_wp2_with fail
  refine (wall_nil _ _ _ _).mono ?_
  rintro e w' ⟨rfl, rfl⟩
  go_wp2_with fail
  go_end0
  exact ⟨rfl, (Below.refl _ _).alloc (Nat.le_refl _) _⟩

set_option maxRecDepth 100000 in
set_option maxHeartbeats 3200000 in
theorem walk_OctetNone (a0 : Option Addr) (len0 cap0 : Nat) (z0 : List Int) (w : World) (w0 : IsRow .u8 w a0 len0 cap0 z0) (hrb : cap0 * 1 ≤ 140737488351232) (a1 : Int) (b1 : -9223372036854775808 ≤ a1 ∧ a1 ≤ 9223372036854775807) :
    Calls Try.prog 12 #[.slice a0 len0 cap0, .int .i64 a1] w fun e w' => e = .returned (.bool true) ∧ Below w.heap.size w w' := by
  have hsl := sl_of_row w0
  have hwf := wf_of_row w0
  have hr : len0 ≤ 140737488355328 := by have := hsl.le; omega
  generalize z0.take len0 = l at *
  clear w0 hrb
  obtain ⟨i0, hi, hz0, hz1, hz2⟩ := info_parts info5
  go_enter Try.func12, Try.ntmps12
  go_wp2_with fail
  refine (known_any w).mono ?_
  rintro e w1 ⟨rfl, hb1⟩
  go_wp2_with fail
  refine (wone_nil _ _ (by omega)).mono ?_
  rintro e w2 ⟨rfl, hb2⟩
  have hb2 := hb1.trans (hb2.mono hb1.size)
  clear hb1
  go_wp2_with fail
  refine (wtwo_nil _ _ (by omega)).mono ?_
  rintro e w3 ⟨rfl, hb3⟩
  have hb3 := hb2.trans (hb3.mono hb2.size)
  clear hb2
  go_wp2_with fail
  refine (wfour_nil _ _ (by omega)).mono ?_
  rintro e w4 ⟨rfl, hb4⟩
  have hb4 := hb3.trans (hb4.mono hb3.size)
  clear hb3
  go_wp2_with fail
  refine (wall_nil _ _ _ _).mono ?_
  rintro e w' ⟨rfl, rfl⟩
  go_wp2_with fail
  refine (rone_nil _).mono ?_
  rintro e w' ⟨rfl, rfl⟩
  go_wp2_with fail
  refine (rtwo_nil _).mono ?_
  rintro e w' ⟨rfl, rfl⟩
  go_wp2_with fail
  refine (rfour_nil _).mono ?_
  rintro e w' ⟨rfl, rfl⟩
  go_wp2_with fail
  refine (take_nil _ _).mono ?_
  rintro e w5 ⟨v, rfl, hown, hb5⟩
  obtain ⟨ax, cx, hv, _, _⟩ := sl_of_own (l := []) hown
  rw [hv]
  clear hown hv
  have hb5 := hb4.trans (hb5.mono hb4.size)
  clear hb4
  go_wp2_with fail
  refine (wlen_nil _).mono ?_
  rintro e w' ⟨rfl, rfl⟩
  go_wp2_with fail
  refine (wbytes_nil _).mono ?_
  rintro e w' ⟨rfl, rfl⟩
  go_wp2_with fail
  refine (left_nil _).mono ?_
  rintro e w' ⟨rfl, rfl⟩
  go_wp2_with fail
  refine (rest_nil _).mono ?_
  rintro e w' ⟨rfl, rfl⟩
  have hsz5 := hb5.size
  have hbe : Below w.heap.size w (w5.alloc (.cells #[] 5)) := hb5.alloc hsz5 _
  have hsrc := (hsl.later hbe).src Try.underlying44
  have hmade : (w5.alloc (.cells #[] 5)).ownsRow w5.heap.size 5 1 (.slice (some ⟨w5.heap.size, 0, none⟩) 0 0) 0 [] := World.ownsRow_made w5 #[] 0 (Nat.le_refl _) (by simp [maxLen]) rfl
  go_wp2_with (at_builtin; refine wpList_append_any _ rfl (.tmp 83) (.tmp 84) 44 44 rfl w5.heap.size 5 i0 (.int .u8 0) 1 Try.underlying44 hi hz0 hz1 hz2 rfl (.slice (some ⟨w5.heap.size, 0, none⟩) 0 0) 0 [] rfl hmade (.slice a0 len0 cap0) rfl len0 (ints .u8 l) hsrc (by unfold maxLen; omega) (by omega) (by simp) ?_; intro a6 cap6 w6 hown6 hgr6 hat6)
  simp only [Nat.zero_add, List.nil_append] at hown6 hat6 ⊢
  have hb6 : Below w.heap.size w w6 := hbe.grown hgr6 (by simp; omega) (fun k hk => by simp [Value.ownBlock] at hk; omega)
  have hB6 : w.heap.size ≤ w6.heap.size := hb6.size
  have hlt6 := hown6.lt
  obtain ⟨a6', cap6', hv6, hsl6, hblk6⟩ := sl_of_own hown6
  injection hv6 with hv1 _ hv2
  subst hv1 hv2
  clear hbe hsrc hmade hgr6 hat6 hb5
  go_wp2_with fail
  refine (new_any a6 len0 cap6 l w6 hsl6 hr).mono ?_
  rintro e w7 ⟨p, S, rfl, hrd, hp, hS, hb7⟩
  have hb7w := hb6.trans (hb7.mono hB6)
  have hown7 := (Kept.of_below hb7 (Nat.le_refl _) []).own (by simp) hown6
  go_wp2_with fail
  go_loopw [17] (fun i wr => ∃ k : Nat, k ≤ len0 ∧ i = .int .i64 k ∧ ∃ l', l'.length = len0 ∧ (∀ x ∈ l', 0 ≤ x ∧ x ≤ 255) ∧ wr.ownsRow w5.heap.size 5 1 (.slice a6 len0 cap6) len0 (ints .u8 l') ∧ Rd wr p S l ∧ Below w.heap.size w wr) (fun i _ => len0 - (intOf i).toNat)
  case atStart => exact ⟨0, Nat.zero_le _, rfl, l, hsl.len, fun x hx => bounds_u8 (hwf x hx), hown7, hrd, hb7w⟩
  case round =>
    clear hown7 hrd hb7w hown6 hsl6 hb6 hb7
    obtain ⟨k, hk, rfl, l', hl', hb', hown, hrd, hbr⟩ := hrel
    by_cases hlt : k < len0
    · obtain ⟨g, cg, hv, hg1, hg2⟩ := hown.form (by omega)
      injection hv with hv1 _ _
      obtain rfl : a6 = some ⟨g, 0, none⟩ := hv1
      have hg6 : g < w6.heap.size := (hlt6 g rfl).2
      have hgp : g ≠ p := by omega
      have hgS : ∀ x ∈ S, x ≠ g := fun x hx => by have := hS x hx; omega
      have hc := (hown.cellAt k (by omega)).trans (getD_map_some (by omega))
      have hf := hown.frozenAt k
      have hxb := getD_bd (fun x => 0 ≤ x ∧ x ≤ 255) (by omega) hb' k
      have hst := fun u => (hown.stored k u).1
      have hrd2 := fun u => hrd.keep (((Kept.refl [g] wr)).setCell (p := ⟨g, k, none⟩) (.inl (by simp)) u) (by simp; omega) (fun x hx => by simpa using hgS x hx)
      have hbr2 := fun u => hbr.setCell (p := ⟨g, k, none⟩) (by show w.heap.size ≤ g; omega) u
      have HST := Lib.hid hst
      have HR := Lib.hid hrd2
      have HBR := Lib.hid hbr2
      have HB' := Lib.hid hb'
      have HL' := Lib.hid hl'
      have HHS := Lib.hid hS
      clear hst hrd2 hbr2 hrd hbr hown hb' hl' hgS hS
      generalize l'.getD k 0 = x at *
      go_wp2
      go_roundw
      case rel =>
        refine ⟨k + 1, by omega, by go_num, l'.set k ((x + 1) % 256), by simpa using HL'.out, ?_, ?_, HR.out _, HBR.out _⟩
        · intro y hy
          rcases List.mem_or_eq_of_mem_set hy with h | h
          · exact HB'.out y h
          · omega
        · have := HST.out (.int .u8 ((x + 1) % 256))
          rw [ints, List.map_set]
          exact this
      case measure => simp [intOf]; omega
    · obtain rfl : k = len0 := by omega
      clear hown hl' hb'
      go_wp2_with fail
      refine (rest_any p S l _ hrd).mono ?_
      rintro e w8 ⟨v, rfl, hown8, hb8⟩
      have hb8w := hbr.trans (hb8.mono hbr.size)
      obtain ⟨a8, cap8, hv8, hsl8, _⟩ := sl_of_own hown8
      rw [hv8]
      clear hown8 hv8 hrd hbr hb8
      have hslb := hsl.later hb8w
      have hll := hsl.len
      rw [hll] at hsl8 ⊢
      go_wp2_with fail
      refine (same_true _ _ k _ _ l _ hsl8 hslb).mono ?_
      rintro e w9 ⟨rfl, nq, hw9⟩
      have hb9 : Below w.heap.size w w9 := by rw [hw9]; exact below_drewN hb8w _
      clear hw9 hb8w
      go_wp2_with fail
      refine (known_any _).mono ?_
      rintro e wa ⟨rfl, hba⟩
      go_wp2_with fail
      go_ret
      exact ⟨rfl, hb9.trans (hba.mono hb9.size)⟩
end Go.Proofs.Ythkgdeehehjpmaa.oc
