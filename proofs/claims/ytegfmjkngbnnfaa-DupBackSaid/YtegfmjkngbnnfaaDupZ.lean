/-
  Package dup: what Blocks tells of spans in the window, Look tells again (numbers).
-/
import Derived.Test.YtegfmjkngbnnfaaDupV
import Derived.Test.YtegfmjkngbnnfaaDupO
namespace Go.Proofs.Ytegfmjkngbnnfaa.dp
open sq sp
set_option linter.unusedVariables false

theorem runw_near {near off : Int} (h0 : 0 ≤ near ∧ near ≤ 4611686018427387904) (h1 : 0 ≤ off ∧ off ≤ 4611686018427387904) (h2 : -2147483648 ≤ off - near ∧ off - near < 2147483648) : runw near (m32 off) = off := by
  have e : near + dist (m32 near) (m32 off) = off := by unfold dist m32; omega
  unfold runw
  rw [e]
  have a : isMay near = true := by simp [isMay]; omega
  have b : isMay off = true := by simp [isMay]; omega
  rw [a, b]; rfl
theorem frm_back {near : Int} {s : Int × Int} (h0 : 0 ≤ near ∧ near ≤ 4611686018427387904) (hs : Ok s) (hl : s.1 < s.2) (h3 : s.2 - s.1 ≤ 65536) (h2 : -2147483648 ≤ s.1 - near ∧ s.1 - near < 2147483648) : frm near (mkB 0 s) = s ∧ frmB near (mkB 0 s) = true := by
  obtain ⟨o1, o2, o3⟩ := hs
  have e1 : (mkB 0 s).1 = m32 s.1 := by unfold mkB m32; simp
  have e2 : (mkB 0 s).2 = m32 s.2 := by unfold mkB m32; simp
  have e3 : m32 ((mkB 0 s).2 - (mkB 0 s).1) = s.2 - s.1 := by rw [e1, e2]; unfold m32; omega
  have e4 : runw near (mkB 0 s).1 = s.1 := by rw [e1]; exact runw_near h0 ⟨o1, by omega⟩ h2
  have e5 : frm near (mkB 0 s) = s := by
    unfold frm
    rw [e3, e4, if_neg (by omega)]
    ext <;> simp <;> omega
  refine ⟨e5, ?_⟩
  unfold frmB
  rw [e5]
  simpa using hl
theorem fold_all (first : Int) : ∀ (l : List (Int × Int)) (acc : List Bk), (∀ s ∈ l, 0 < lenI s) → acc.length + l.length ≤ 4 → l.foldl (putB first) acc = acc ++ l.map (mkB first) := by
  intro l
  induction l with
  | nil => intro acc _ _; simp
  | cons x l ih =>
    intro acc h1 h2
    simp only [List.length_cons] at h2
    have e : putB first acc x = acc ++ [mkB first x] := by unfold putB; rw [if_pos ⟨h1 x (by simp), by omega⟩]
    rw [List.foldl_cons, e, ih _ (fun s hs => h1 s (List.mem_cons_of_mem _ hs)) (by simp; omega)]
    simp
/-- a span in the window, above the number -/
def Above (ack nxt : Int) (s : Int × Int) : Prop := lenI s ≠ 0 ∧ ack < s.1 ∧ s.2 ≤ nxt
theorem sacks_back {ack nxt : Int} (h0 : 0 ≤ ack ∧ ack ≤ 4611686018427387904) (hn : nxt ≤ ack + 65536) : ∀ (l : List (Int × Int)), (∀ s ∈ l, Above ack nxt s) → sacksP ack nxt (l.map (mkB 0)) = l := by
  intro l
  induction l with
  | nil => intro _; rfl
  | cons x l ih =>
    intro h
    obtain ⟨hx, ho, hl⟩ := of_self (h x (by simp)).1
    obtain ⟨_, a1, a2⟩ := h x (by simp)
    obtain ⟨o1, o2, o3⟩ := ho
    have hf := (frm_back h0 ⟨o1, o2, o3⟩ hl (by omega) ⟨by omega, by omega⟩).1
    have hi : isS ack nxt x = true := by unfold isS; simp; omega
    have e := ih (fun s hs => h s (List.mem_cons_of_mem _ hs))
    unfold sacksP at e ⊢
    rw [List.map_cons, List.map_cons, hf, List.filter_cons, if_pos hi, e]
theorem look_back {una ack : Int} {d : Int × Int} {l : List (Int × Int)} (h0 : 0 ≤ una ∧ una ≤ 1152921504606846976) (h1 : una ≤ ack ∧ ack - una ≤ 4096) (hl : l.length ≤ 3) (hd : 0 < lenI d → d.2 ≤ ack ∧ lenI d ≤ 4096 ∧ ack - d.1 ≤ 1073741824)
    (ha : ∀ s ∈ l, Above ack (una + 65536) s) (hh : lenI d ≤ 0 → ∀ s t r, l = s :: t :: r → holdsB t s = false) :
    errP una (una + 65536) (m32 ack) = 0 ∧ lookP una (una + 65536) (m32 ack) (blocksP 0 d l) = ⟨ack, decide (0 < lenI d), if 0 < lenI d then d else (0, 0), l, 0⟩ := by
  have hr : runw una (m32 ack) = ack := runw_near (by omega) (by omega) (by omega)
  have he : errP una (una + 65536) (m32 ack) = 0 := by
    unfold errP
    rw [hr, if_neg (by omega), if_neg (by omega), if_neg (by omega)]
  have hk : (0 : Int) ≤ ack ∧ ack ≤ 4611686018427387904 := by omega
  have hpos : ∀ s ∈ l, 0 < lenI s := fun s hs => by
    have := (ha s hs).1
    have := lenI_bd s
    omega
  refine ⟨he, ?_⟩
  by_cases hdl : 0 < lenI d
  · obtain ⟨d1, d2, d3⟩ := hd hdl
    obtain ⟨_, ho, hlt⟩ := of_self (show lenI d ≠ 0 by omega)
    have hlen : lenI d = d.2 - d.1 := len_fit ho
    have hb : blocksP 0 d l = mkB 0 d :: l.map (mkB 0) := by
      unfold blocksP
      rw [fold_all 0 (d :: l) [] (fun s hs => by rcases List.mem_cons.1 hs with rfl | hs; exact hdl; exact hpos s hs) (by simp; omega)]
      simp
    obtain ⟨o1, o2, o3⟩ := ho
    obtain ⟨f1, f2⟩ := frm_back hk ⟨o1, o2, o3⟩ hlt (by omega) ⟨by omega, by omega⟩
    have hD : dupP ack (una + 65536) (mkB 0 d :: l.map (mkB 0)) = d := by
      cases l with
      | nil => show (if (frm ack (mkB 0 d)).2 ≤ ack then frm ack (mkB 0 d) else (0, 0)) = d; rw [f1, if_pos d1]
      | cons x l => simp only [List.map_cons, dupP]; rw [f1, if_pos d1]
    have hDB : dupB ack (una + 65536) (mkB 0 d :: l.map (mkB 0)) = true := by unfold dupB; rw [hD]; simpa using hlt
    have hS := sacks_back hk (nxt := una + 65536) (by omega) l ha
    unfold lookP restP
    rw [if_pos he, hr, hb, hDB, if_pos rfl, List.drop_one, List.tail_cons, hS, hD]
    simp [hdl]
  · have hb : blocksP 0 d l = l.map (mkB 0) := by
      unfold blocksP
      rw [List.foldl_cons, show putB 0 [] d = [] from by unfold putB; rw [if_neg (by omega)], fold_all 0 l [] hpos (by simp; omega)]
      simp
    have hD : dupP ack (una + 65536) (l.map (mkB 0)) = (0, 0) := by
      match l, ha, hh with
      | [], _, _ => rfl
      | [s], ha, _ =>
        obtain ⟨hx, a1, a2⟩ := ha s (by simp)
        obtain ⟨_, ⟨o1, o2, o3⟩, hlt⟩ := of_self hx
        have hf := (frm_back hk ⟨o1, o2, o3⟩ hlt (by omega) ⟨by omega, by omega⟩).1
        show (if (frm ack (mkB 0 s)).2 ≤ ack then frm ack (mkB 0 s) else (0, 0)) = (0, 0)
        rw [hf, if_neg (by omega)]
      | s :: t :: r, ha, hh =>
        obtain ⟨hx, a1, a2⟩ := ha s (by simp)
        obtain ⟨hy, c1, c2⟩ := ha t (by simp)
        obtain ⟨_, ⟨o1, o2, o3⟩, hlt⟩ := of_self hx
        obtain ⟨_, ⟨p1, p2, p3⟩, hlt2⟩ := of_self hy
        have hf := (frm_back hk ⟨o1, o2, o3⟩ hlt (by omega) ⟨by omega, by omega⟩).1
        have hg := (frm_back hk ⟨p1, p2, p3⟩ hlt2 (by omega) ⟨by omega, by omega⟩).1
        have hH := hh (by omega) s t r rfl
        simp only [List.map_cons, dupP]
        rw [hf, hg, hH, if_neg (by omega), if_neg (by simp)]
    have hDB : dupB ack (una + 65536) (l.map (mkB 0)) = false := by unfold dupB; rw [hD]; rfl
    have hS := sacks_back hk (nxt := una + 65536) (by omega) l ha
    unfold lookP restP
    rw [if_pos he, hr, hb, hDB, if_neg (by simp), hS, hD]
    simp [hdl]
end Go.Proofs.Ytegfmjkngbnnfaa.dp
