/-
  Contracts of package octet: a writer's calls.
-/
import Derived.Test.YtdfenlagokndkaaOctW
namespace Go.Proofs.Ytdfenlagokndkaa.oc
open Go.RowKit aid mem
set_option linter.unusedVariables false

theorem put_any (p : Nat) (S : List Nat) (l : List Int) (a : Option Addr) (m cap : Nat) (lb : List Int) (w : World) (hw : Wr w p S l)
    (hb : SlA .u8 w a m cap lb) (hbp : ∀ x, a = some x → 0 < cap → x.block ≠ p) (hr : l.length + m ≤ 140737488355328) :
    Calls Try.prog 100 #[.pointer (some ⟨p, 0, none⟩), .slice a m cap] w (WrPost p S (l ++ lb) w) := by
  have hlb := hb.len
  rcases hw.rest with ⟨h0, rfl, rfl⟩ | ⟨sb, v, h0, hs, hf, hown, hne, hg, rfl⟩
  · simp only [List.length_nil, Nat.zero_add] at hr
    have hpw : p < w.heap.size := World.block_lt_of_cell? w _ h0
    refine (put_zero p a m cap lb w h0 hw.c1 hw.f0 hw.f1 hb hbp hr).mono ?_
    rintro e w' ⟨sb, hsb, rfl, a', cap', k0, k1, ks, kown, kob, kne, hk, f0, f1, fs⟩
    refine ⟨rfl, _, ⟨f0, f1, k1, (by rw [List.nil_append, hlb]; exact hr), .inr ⟨sb, _, k0, ks, fs, kown, by omega, kne, rfl⟩⟩, hk.mono ?_, ?_⟩
    · intro x hx
      simp at hx
      rcases hx with rfl | rfl
      · exact .inl (by simp)
      · exact .inr hsb
    · intro k hk'
      simp at hk'
      rcases hk' with rfl | hk'
      · exact .inr hsb
      · rcases kob with h | ⟨g', h, hg'⟩
        · rw [h] at hk'; cases hk'
        · rw [h] at hk'; injection hk' with hk'; exact .inr (by omega)
  · obtain ⟨a0, cap0, rfl⟩ := own_form hown
    refine (put_own p sb a0 l.length cap0 l a m cap lb w h0 hw.c1 hs hw.f0 hw.f1 hf hne hown hg hb hr).mono ?_
    rintro e w' ⟨rfl, a', cap', k0, k1, ks, kown, kob, kne, hk, f0, f1, fs⟩
    refine ⟨rfl, _, ⟨f0, f1, k1, by simp; omega, .inr ⟨sb, _, k0, ks, fs, kown, hne, kne, rfl⟩⟩, hk.mono ?_, ?_⟩
    · intro x hx
      exact .inl hx
    · intro k hk'
      simp only [List.mem_cons, Option.mem_toList] at hk'
      rcases hk' with rfl | hk'
      · exact .inl (by simp)
      · rcases kob with h | ⟨g', h, hg'⟩
        · rw [h] at hk'; exact .inl (by simp [hk'])
        · rw [h] at hk'; injection hk' with hk'; exact .inr (by omega)

theorem all_any (p : Nat) (S : List Nat) (l : List Int) (a : Option Addr) (m cap : Nat) (lb : List Int) (w : World) (hw : Wr w p S l)
    (hb : SlA .u8 w a m cap lb) (hbp : ∀ x, a = some x → 0 < cap → x.block ≠ p) (hr : l.length + m ≤ 140737488355328) :
    Calls Try.prog 75 #[.pointer (some ⟨p, 0, none⟩), .slice a m cap] w (WrPost p S (l ++ lb) w) := by
  go_enter Try.func75, Try.ntmps75
  go_wp2_with fail
  refine (put_any p S l a m cap lb w hw hb hbp hr).mono ?_
  rintro e w' ⟨rfl, S', h⟩
  go_wp2_with fail
  go_end0
  exact ⟨rfl, S', h⟩

theorem len_any (p : Nat) (S : List Nat) (l : List Int) (w : World) (hw : Wr w p S l) :
    Calls Try.prog 82 #[.pointer (some ⟨p, 0, none⟩)] w fun e w' => e = .returned (.int .i64 l.length) ∧ w = w' := by
  have h1 := hw.c1
  go_enter Try.func82, Try.ntmps82
  go_wp2
  go_ret
  exact ⟨rfl, rfl⟩

theorem bytes_any (p : Nat) (S : List Nat) (l : List Int) (w : World) (hw : Wr w p S l) :
    Calls Try.prog 74 #[.pointer (some ⟨p, 0, none⟩)] w (RetRow l.length l w) := by
  have hsm := hw.small
  rcases hw.rest with ⟨h0, rfl, rfl⟩ | ⟨sb, v, h0, hs, hf, hown, hne, hg, rfl⟩
  · go_enter Try.func74, Try.ntmps74
    go_wp2_with fail
    refine (all_zero p w h0).mono ?_
    rintro e w' ⟨rfl, rfl⟩
    go_wp2_with fail
    go_ret
    exact ⟨_, rfl, World.ownsRow_nil _ _ _ _, Below.refl _ _⟩
  · obtain ⟨a0, cap0, hv, hsl, _⟩ := sl_of_own hown
    subst hv
    have h1 := hw.c1
    go_enter Try.func74, Try.ntmps74
    go_wp2_with fail
    refine (all_own p sb a0 l.length cap0 l w h0 h1 hs hsl hsm).mono ?_
    rintro e w' ⟨v, rfl, hown', hbel⟩
    go_wp2_with fail
    go_ret
    exact ⟨v, rfl, hown', hbel⟩

theorem one_any (p : Nat) (S : List Nat) (l : List Int) (b : Int) (w : World) (hw : Wr w p S l) (hr : l.length + 1 ≤ 140737488355328) :
    Calls Try.prog 98 #[.pointer (some ⟨p, 0, none⟩), .int .u8 b] w (WrPost p S (l ++ [b]) w) := by
  have hp : p < w.heap.size := World.block_lt_of_cell? w _ hw.c1
  have hW := hw.keep (((Kept.refl [] w)).alloc (.cells (ints .u8 [b]).toArray 5)) (by simp) (by simp)
  have hS := sl_new .u8 5 w [b] (by simp [maxLen])
  have hK := (Kept.refl (p :: S) w).alloc (.cells (ints .u8 [b]).toArray 5)
  go_enter Try.func98, Try.ntmps98
  go_wp2_with fail
  refine (all_any p S l _ 1 1 [b] _ hW hS (by intro x hx _; injection hx with hx; subst hx; simp; omega) (by omega)).mono ?_
  rintro e w' ⟨rfl, S', h, hk, hs⟩
  go_wp2_with fail
  go_end0
  refine ⟨rfl, S', h, hK.trans hk (fun x hx => .inl hx), fun k hk' => ?_⟩
  rcases hs k hk' with h | h
  · exact .inl h
  · exact .inr (by simp at h; omega)

theorem two_any (p : Nat) (S : List Nat) (l : List Int) (b : Int) (w : World) (hw : Wr w p S l) (hb : 0 ≤ b ∧ b ≤ 65535) (hr : l.length + 2 ≤ 140737488355328) :
    Calls Try.prog 76 #[.pointer (some ⟨p, 0, none⟩), .int .u16 b] w (WrPost p S (l ++ [b / 256, b % 256]) w) := by
  have hp : p < w.heap.size := World.block_lt_of_cell? w _ hw.c1
  have hW := hw.keep (((Kept.refl [] w)).alloc (.cells (ints .u8 [b / 256, b % 256]).toArray 5)) (by simp) (by simp)
  have hS := sl_new .u8 5 w [b / 256, b % 256] (by simp [maxLen])
  have hK := (Kept.refl (p :: S) w).alloc (.cells (ints .u8 [b / 256, b % 256]).toArray 5)
  go_enter Try.func76, Try.ntmps76
  go_wp2_with fail
  refine (all_any p S l _ 2 2 [b / 256, b % 256] _ hW hS (by intro x hx _; injection hx with hx; subst hx; simp; omega) (by omega)).mono ?_
  rintro e w' ⟨rfl, S', h, hk, hs⟩
  go_wp2_with fail
  go_end0
  refine ⟨rfl, S', h, hK.trans hk (fun x hx => .inl hx), fun k hk' => ?_⟩
  rcases hs k hk' with h | h
  · exact .inl h
  · exact .inr (by simp at h; omega)

theorem four_any (p : Nat) (S : List Nat) (l : List Int) (b : Int) (w : World) (hw : Wr w p S l) (hb : 0 ≤ b ∧ b ≤ 4294967295) (hr : l.length + 4 ≤ 140737488355328) :
    Calls Try.prog 77 #[.pointer (some ⟨p, 0, none⟩), .int .u32 b] w (WrPost p S (l ++ [b / 16777216, b / 65536 % 256, b / 256 % 256, b % 256]) w) := by
  have hp : p < w.heap.size := World.block_lt_of_cell? w _ hw.c1
  have hW := hw.keep (((Kept.refl [] w)).alloc (.cells (ints .u8 [b / 16777216, b / 65536 % 256, b / 256 % 256, b % 256]).toArray 5)) (by simp) (by simp)
  have hS := sl_new .u8 5 w [b / 16777216, b / 65536 % 256, b / 256 % 256, b % 256] (by simp [maxLen])
  have hK := (Kept.refl (p :: S) w).alloc (.cells (ints .u8 [b / 16777216, b / 65536 % 256, b / 256 % 256, b % 256]).toArray 5)
  go_enter Try.func77, Try.ntmps77
  go_wp2_with fail
  refine (all_any p S l _ 4 4 [b / 16777216, b / 65536 % 256, b / 256 % 256, b % 256] _ hW hS (by intro x hx _; injection hx with hx; subst hx; simp; omega) (by omega)).mono ?_
  rintro e w' ⟨rfl, S', h, hk, hs⟩
  go_wp2_with fail
  go_end0
  refine ⟨rfl, S', h, hK.trans hk (fun x hx => .inl hx), fun k hk' => ?_⟩
  rcases hs k hk' with h | h
  · exact .inl h
  · exact .inr (by simp at h; omega)

end Go.Proofs.Ytdfenlagokndkaa.oc
