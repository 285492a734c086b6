/-
  Contracts of layer 1, the rest: the reference's Unwrap, Latest over any numbers, and what must come of fixed calls.
-/
import Derived.Test.YtpoifoanigpncaaSeqW
namespace Go.Proofs.Ytpoifoanigpncaa.sq
open Go.RowKit aid
set_option linter.unusedVariables false

def runw (near s : Int) : Int := if isMay near && isMay (near + dist (m32 near) s) then near + dist (m32 near) s else -1

/-- the one that is the furthest ahead, of a first one and a list -/
def latest (a : Int) : Int → List Int → Int
  | best, [] => best
  | best, x :: l => latest a (if dist a best < dist a x then x else best) l

theorem latest_snoc (a best : Int) (l : List Int) (x : Int) :
    latest a best (l ++ [x]) = if dist a (latest a best l) < dist a x then x else latest a best l := by
  induction l generalizing best with
  | nil => rfl
  | cons y l ih => exact ih _

theorem latest_bd (a best : Int) (l : List Int) (hb : 0 ≤ best ∧ best ≤ 4294967295) (hl : ∀ x ∈ l, 0 ≤ x ∧ x ≤ 4294967295) :
    0 ≤ latest a best l ∧ latest a best l ≤ 4294967295 := by
  induction l generalizing best with
  | nil => simpa [latest] using hb
  | cons y l ih =>
    simp only [latest]
    refine ih _ ?_ (fun x hx => hl x (List.mem_cons_of_mem _ hx))
    have := hl y (List.mem_cons_self)
    split <;> assumption

theorem take_snoc {α : Type} (zs : List α) (d : α) (k : Nat) (h : k < zs.length) : zs.take (k + 1) = zs.take k ++ [zs.getD k d] := by
  rw [List.take_succ_eq_append_getElem h]
  simp [List.getD, h]

theorem latest_nil (a : Int) (p : Option Addr) (cap : Nat) (w : World) (ha : 0 ≤ a ∧ a ≤ 4294967295) :
    Calls Try.prog 58 #[.int .u32 a, .slice p 0 cap] w fun e w' => e = .returned (.int .u32 a) ∧ w = w' := by
  go_enter Try.func58, Try.ntmps58
  go_wp2
  go_loop [5, 10] (fun v i => i = .int .i64 0 ∧ v = .int .u32 a) (fun _ _ => 0)
  case atStart => exact ⟨rfl, rfl⟩
  case round =>
    obtain ⟨rfl, rfl⟩ := hrel
    go_wp2
    go_ret
    exact ⟨rfl, rfl⟩

/-- over a slice that lies in memory -/
theorem latest_any (a : Int) (b off cap len : Nat) (zs : List Int) (w : World) (ha : 0 ≤ a ∧ a ≤ 4294967295) (hlen : zs.length = len) (hl : len ≤ 9223372036854775807)
    (hzm : ∀ x ∈ zs, 0 ≤ x ∧ x ≤ 4294967295)
    (hc : ∀ k, k < len → w.cell? ⟨b, off + k, none⟩ = some (.int .u32 (zs.getD k 0))) :
    Calls Try.prog 58 #[.int .u32 a, .slice (some ⟨b, off, none⟩) len cap] w fun e w' => e = .returned (.int .u32 (latest a a zs)) ∧ w = w' := by
  have hz : ∀ j, 0 ≤ zs.getD j 0 ∧ zs.getD j 0 ≤ 4294967295 := getD_bd (fun x => 0 ≤ x ∧ x ≤ 4294967295) (by omega) hzm
  have hle : zs.length ≤ len := by omega
  have hge : len ≤ zs.length := by omega
  have HC := Lib.hid hc
  have HZ := Lib.hid hz
  have HM := Lib.hid hzm
  clear hc hz hzm hlen
  go_enter Try.func58, Try.ntmps58
  go_wp2
  go_loop [5, 10] (fun v i => ∃ k : Nat, k ≤ len ∧ i = .int .i64 k ∧ v = .int .u32 (latest a a (zs.take k))) (fun _ i => len - (intOf i).toNat)
  case atStart => exact ⟨0, Nat.zero_le _, rfl, rfl⟩
  case round =>
    obtain ⟨k, hk, rfl, rfl⟩ := hrel
    by_cases hlt : k < len
    · have hcell := HC.out k hlt
      have hx := HZ.out k
      have hb := latest_bd a a (zs.take k) ha (fun x hx => HM.out x (List.mem_of_mem_take hx))
      have HS := latest_snoc a a (zs.take k) (zs.getD k 0)
      rw [← take_snoc zs 0 k (by omega)] at HS
      generalize zs.getD k 0 = x at *
      generalize latest a a (zs.take k) = L at *
      have HT := Lib.hid HS
      clear HS
      by_cases ht : dist a L < dist a x
      all_goals
        go_wp2_with (go_at_call 69; refine (dist_any _ _ _ (by omega) (by omega)).mono ?_; rintro e w' ⟨rfl, rfl⟩)
        go_round
        case rel => exact ⟨k + 1, by omega, by go_num, by rw [HT.out]; first | rw [if_pos (by omega)] | rw [if_neg (by omega)]⟩
        case measure => simp [intOf]; omega
    · go_wp2
      go_ret
      exact ⟨ret_i (by rw [List.take_of_length_le (by omega)]), rfl⟩

end Go.Proofs.Ytpoifoanigpncaa.sq
