/-
  Package dup: Blocks, by the code and by the reference.
-/
import Derived.Test.YtegfmjkngbnnfaaDupK
namespace Go.Proofs.Ytegfmjkngbnnfaa.dp
open Go.RowKit aid mem sq sp
attribute [local go_sem ↓] Go.wp_at_zero Go.wp_at_succ
set_option linter.unusedVariables false

def I64 (n : Int) : Prop := -9223372036854775808 ≤ n ∧ n ≤ 9223372036854775807
def SpI (s : Int × Int) : Prop := I64 s.1 ∧ I64 s.2

set_option maxRecDepth 100000 in
set_option maxHeartbeats 3200000 in
theorem blocks_any (first : Int) (d : Int × Int) (a : Option Addr) (n cap : Nat) (l : List (Int × Int)) (w : World) (hf : 0 ≤ first ∧ first ≤ 4294967295) (hd : SpI d) (hl : SlS w a n cap l) (hok : ∀ s ∈ l, SpI s) :
    Calls Try.prog 12 #[.int .u32 first, spV d, .slice a n cap] w (RetK (blocksP first d l) w) := by
  have hlen := hl.len
  have hle := hl.le
  have hmost := hl.most
  unfold maxLen at hmost
  have b1 := bal (w := w) (.cells #[.int .u32 first] 22)
  have f1 := heap_alloc_new w (.cells #[.int .u32 first] 22)
  have b2 := b1.alloc b1.size (.cells #[.int .i64 d.1, .int .i64 d.2] 26)
  have d2 := sp_new (w.alloc (.cells #[.int .u32 first] 22)) d
  have f2 := ((bal (w := w.alloc (.cells #[.int .u32 first] 22)) (.cells #[.int .i64 d.1, .int .i64 d.2] 26)).block _ (by simp)).trans f1
  have b3 := b2.alloc b2.size (.cells #[.slice none 0 0] 23)
  have l3 := heap_alloc_new ((w.alloc (.cells #[.int .u32 first] 22)).alloc (.cells #[.int .i64 d.1, .int .i64 d.2] 26)) (.cells #[.slice none 0 0] 23)
  have f3 := ((bal (w := (w.alloc (.cells #[.int .u32 first] 22)).alloc (.cells #[.int .i64 d.1, .int .i64 d.2] 26)) (.cells #[.slice none 0 0] 23)).block _ (by simp; omega)).trans f2
  have d3 := d2.later (bal (.cells #[.slice none 0 0] 23))
  simp only [World.size_alloc] at d3 l3
  have hK : KS w (w.heap.size + 1 + 1 + 1) (w.heap.size + 1 + 1) w.heap.size first [] (.slice none 0 0) (((w.alloc (.cells #[.int .u32 first] 22)).alloc (.cells #[.int .i64 d.1, .int .i64 d.2] 26)).alloc (.cells #[.slice none 0 0] 23)) :=
    ⟨l3, f3, World.ownsRow_nil _ _ _ _, b3, by simp, by omega, by simp⟩
  have c0 := d3.c0; have c1 := d3.c1
  have HP := Lib.hid (put_any hK hf d hd)
  have HB : Hid (blocksP first d l = l.foldl (putB first) (putB first [] d)) := Lib.hid rfl
  have HS := Lib.hid (blocks_snoc first (putB first [] d) l)
  have HOK := Lib.hid (fun i (hi : i < l.length) => hok (l.getD i (0, 0)) (by rw [show l.getD i (0, 0) = l[i] from by simp [List.getD, hi]]; exact List.getElem_mem _))
  have hL := Lib.hid (fun W (hW : Below w.heap.size w W) => hl.later hW)
  clear b1 f1 b2 d2 f2 b3 l3 f3 d3 hK hok
  go_enter Try.func12, Try.ntmps12
  go_wp2_with fail
  refine (show Calls Try.prog 24 _ _ _ from HP.out).mono ?_
  rintro e w4 ⟨⟨u, rfl⟩, v, hK⟩
  clear HP c0 c1
  go_wp2_with fail
  generalize hbase : w.heap.size + 1 + 1 + 1 = base at *
  generalize hBl : w.heap.size + 1 + 1 = Bl at *
  generalize hBf : w.heap.size = Bf at *
  have HBF := Lib.hid hBf
  clear hbase hBl hBf
  go_loopw [17] (fun i wr => ∃ (k : Nat) (v : Value), k ≤ n ∧ i = .int .i64 k ∧ KS w base Bl Bf first ((l.take k).foldl (putB first) (putB first [] d)) v wr) (fun i _ => n - (intOf i).toNat)
  case atStart => exact ⟨0, v, Nat.zero_le _, rfl, hK⟩
  case round =>
    clear hK
    obtain ⟨k, v, hk, rfl, hK⟩ := hrel
    obtain ⟨wo, rfl⟩ : ∃ wo : World, wo = wr := ⟨_, rfl⟩
    by_cases hkn : k < n
    · obtain ⟨b, off, rfl, hc⟩ := (hL.out _ (HBF.out ▸ hK.below)).cells (by omega)
      obtain ⟨x0, x1⟩ := hc k hkn
      have hs := HOK.out k (by omega)
      have hst := HS.out k (by omega)
      generalize l.getD k (0, 0) = s at *
      have K1 := hK.later (bal (.cells #[.int .i64 s.1, .int .i64 s.2] 26))
      have s1 := sp_new wo s
      have c0 := s1.c0; have c1 := s1.c1
      have HP := Lib.hid (put_any K1 hf s hs)
      rw [← hst] at HP
      clear hst hc hK K1 s1
      go_wp2_with fail
      refine (show Calls Try.prog 24 _ _ _ from HP.out).mono ?_
      rintro e w6 ⟨⟨u, rfl⟩, v', hK⟩
      clear HP c0 c1 x0 x1
      go_wp2_with fail
      go_roundw
      case rel => exact ⟨k + 1, v', by omega, by go_num, hK⟩
      case measure => simp [intOf]; omega
    · have hkE : k = n := by omega
      subst hkE
      rw [List.take_of_length_le (by omega), ← HB.out] at hK
      have c0 := hK.cl
      obtain ⟨va, vc, rfl⟩ := own_form hK.own
      have hown := own_base hK.own (base' := w.heap.size) (fun k hk => Nat.le_trans hK.lts.2.2.2.2 (own_in hK.own hk).2)
      have hbel := hK.below
      have HF := Lib.hid (show RetK (blocksP first d l) w (.returned (.slice va (blocksP first d l).length vc)) wo from ⟨_, rfl, hown, hbel⟩)
      clear hK hown hbel
      go_wp2_with fail
      go_ret
      exact HF.out
end Go.Proofs.Ytegfmjkngbnnfaa.dp
