/- slots, the document's answer: the plain mathematics of Command and Done. No program is named here. -/
import Derived.Test.YtfhlbndilkidhaaSltS
namespace Go.Proofs.Ytfhlbndilkidhaa.slots
set_option linter.unusedVariables false

def isOn (B : Bd) (i : Nat) : Bool := cl (sl B i) 0 != 0
/-- slots that are on, and their addresses, as far as k -/
def onR (B : Bd) (k : Nat) : List Int := ((List.range k).filter (isOn B)).map Int.ofNat
def adR (B : Bd) (k : Nat) : List Int := ((List.range k).filter (isOn B)).map (fun i => cl (sl B i) 1)
theorem onR_in {B : Bd} {k : Nat} (h : isOn B k = true) : onR B (k + 1) = onR B k ++ [(k : Int)] := by
  unfold onR
  rw [List.range_succ, List.filter_append, List.map_append]
  simp [h]
theorem onR_out {B : Bd} {k : Nat} (h : isOn B k = false) : onR B (k + 1) = onR B k := by
  unfold onR
  rw [List.range_succ, List.filter_append, List.map_append]
  simp [h]
theorem adR_in {B : Bd} {k : Nat} (h : isOn B k = true) : adR B (k + 1) = adR B k ++ [cl (sl B k) 1] := by
  unfold adR
  rw [List.range_succ, List.filter_append, List.map_append]
  simp [h]
theorem adR_out {B : Bd} {k : Nat} (h : isOn B k = false) : adR B (k + 1) = adR B k := by
  unfold adR
  rw [List.range_succ, List.filter_append, List.map_append]
  simp [h]
theorem onR_len (B : Bd) (k : Nat) : (onR B k).length ≤ k := by
  unfold onR
  rw [List.length_map]
  have := List.length_filter_le (isOn B) (List.range k)
  rw [List.length_range] at this
  exact this
theorem adR_len (B : Bd) (k : Nat) : (adR B k).length ≤ k := by
  unfold adR
  rw [List.length_map]
  have := List.length_filter_le (isOn B) (List.range k)
  rw [List.length_range] at this
  exact this
theorem lst_congr {l m : List Int} (h : ∀ x : Nat, 1 ≤ x → ((x : Int) ∈ l ↔ (x : Int) ∈ m)) : lst l = lst m := by
  have hm := lst_is m
  exact lst_eq ⟨hm.pos, fun q => hm.out ((h _ hm.pos).1 q), fun x h1 h2 => (h x h1).2 (hm.all x h1 h2)⟩
theorem isOn_iff {B : Bd} (hok : Ok B) {i : Nat} (hi : i < 9) : isOn B i = true ↔ sl B i ≠ z66 := by
  unfold isOn
  rw [bne_iff_ne]
  constructor
  · intro h q
    rw [q] at h
    exact h rfl
  · intro h q
    exact h (right_0 (hok.right i hi) q)
theorem fr_on {B : Bd} (hok : Ok B) : lst (onR B 9) = fr B := by
  refine lst_congr fun x hx => ?_
  rw [mem_onZ]
  unfold onR
  rw [List.mem_map]
  constructor
  · rintro ⟨i, h1, h2⟩
    have : i = x := by have : (i : Int) = x := h2; omega
    subst this
    rw [List.mem_filter, List.mem_range] at h1
    exact ⟨h1.1, (isOn_iff hok h1.1).1 h1.2⟩
  · rintro ⟨h1, h2⟩
    exact ⟨x, List.mem_filter.2 ⟨List.mem_range.2 h1, (isOn_iff hok h1).2 h2⟩, rfl⟩
theorem la_on {B : Bd} (hw : Wf B) (hok : Ok B) : lst (adR B 9) = la B := by
  refine lst_congr fun x hx => ?_
  unfold adR ads
  rw [List.mem_map, List.mem_map]
  constructor
  · rintro ⟨i, h1, h2⟩
    rw [List.mem_filter, List.mem_range] at h1
    exact ⟨sl B i, sl_mem (by rw [hw.nine]; exact h1.1), h2⟩
  · rintro ⟨s, h1, h2⟩
    obtain ⟨i, hi, e⟩ := List.mem_iff_getElem.1 h1
    have hi9 : i < 9 := by rw [hw.nine] at hi; exact hi
    have hs : sl B i = s := by
      have := sl_at hi
      rw [List.getElem?_eq_getElem hi, e] at this
      exact (Option.some.inj this).symm
    refine ⟨i, List.mem_filter.2 ⟨List.mem_range.2 hi9, ?_⟩, by rw [hs]; exact h2⟩
    refine (isOn_iff hok hi9).2 fun q => ?_
    rw [← hs, q] at h2
    have : ad z66 = 0 := ad_one 0
    omega
structure Cr where
  s : List Int
  c : Int
  n : Int
def cmR (B : Bd) (k n e a : Int) : Cr :=
  if chk B = false then ⟨z66, 0, 0⟩ else if k = 1 then ⟨z66, 1, 0⟩ else if k = 2 then (if fr B ≤ 8 then ⟨one 1, 1, (fr B : Int)⟩ else ⟨z66, 9, 0⟩)
  else if 3 ≤ k ∧ k ≤ 9 ∧ slB n = true then ⟨(beh (sl B n.toNat) (la B : Int) k e a).1, (beh (sl B n.toNat) (la B : Int) k e a).2, n⟩ else ⟨z66, 5, 0⟩
def dnB (B : Bd) (r : Cr) : Bd := if r.c = 1 ∧ 0 < r.n then B.set r.n.toNat r.s else B
theorem cm_0 {B : Bd} {k n e a : Int} (c0 : chk B = false) : cmR B k n e a = ⟨z66, 0, 0⟩ := by unfold cmR; rw [if_pos c0]
theorem cm_1 {B : Bd} {n e a : Int} (c0 : ¬ chk B = false) : cmR B 1 n e a = ⟨z66, 1, 0⟩ := by unfold cmR; rw [if_neg c0, if_pos rfl]
theorem cm_2 {B : Bd} {n e a : Int} (c0 : ¬ chk B = false) : cmR B 2 n e a = if fr B ≤ 8 then ⟨one 1, 1, (fr B : Int)⟩ else ⟨z66, 9, 0⟩ := by unfold cmR; rw [if_neg c0, if_neg (by omega), if_pos rfl]
theorem cm_5 {B : Bd} {k n e a : Int} (c0 : ¬ chk B = false) (c1 : ¬ k = 1) (c2 : ¬ k = 2) (c3 : ¬ (3 ≤ k ∧ k ≤ 9 ∧ slB n = true)) : cmR B k n e a = ⟨z66, 5, 0⟩ := by unfold cmR; rw [if_neg c0, if_neg c1, if_neg c2, if_neg c3]
theorem cm_b {B : Bd} {k n e a : Int} (c0 : ¬ chk B = false) (c1 : ¬ k = 1) (c2 : ¬ k = 2) (c3 : 3 ≤ k ∧ k ≤ 9 ∧ slB n = true) : cmR B k n e a = ⟨(beh (sl B n.toNat) (la B : Int) k e a).1, (beh (sl B n.toNat) (la B : Int) k e a).2, n⟩ := by unfold cmR; rw [if_neg c0, if_neg c1, if_neg c2, if_pos c3]
theorem dn_do {B : Bd} (hw : Wf B) {k n e a : Int} : (⟨dnB B (cmR B k n e a), (cmR B k n e a).c, (cmR B k n e a).n⟩ : Ans) = doB B k n e a := by
  by_cases c0 : chk B = false
  · have hd : doB B k n e a = ⟨B, 0, 0⟩ := by unfold doB; rw [if_pos c0]
    rw [cm_0 c0, hd]; rfl
  by_cases c1 : k = 1
  · subst c1
    have hd : doB B 1 n e a = ⟨B, 1, 0⟩ := by unfold doB; rw [if_neg c0, if_pos rfl]
    rw [cm_1 c0, hd]; rfl
  by_cases c2 : k = 2
  · subst c2
    have hd : doB B 2 n e a = enb B := by unfold doB; rw [if_neg c0, if_neg (by omega), if_pos rfl]
    rw [cm_2 c0, hd]
    unfold enb dnB
    have f1 := (fr_le B).1
    by_cases f : fr B ≤ 8
    · rw [if_pos f, if_pos f]
      have e : ((fr B : Nat) : Int).toNat = fr B := by omega
      have hc : (1 : Int) = 1 ∧ (0 : Int) < (fr B : Int) := ⟨rfl, by omega⟩
      show (⟨if (1 : Int) = 1 ∧ (0 : Int) < (fr B : Int) then B.set ((fr B : Int)).toNat (one 1) else B, 1, (fr B : Int)⟩ : Ans) = _
      rw [if_pos hc, e]
    · rw [if_neg f, if_neg f]; rfl
  by_cases c3 : 3 ≤ k ∧ k ≤ 9
  · have hd : doB B k n e a = ats B k n e a := by unfold doB; rw [if_neg c0, if_neg c1, if_neg c2, if_pos c3]
    rw [hd]
    unfold ats
    by_cases q : slB n = false
    · rw [if_pos q, cm_5 c0 c1 c2 (by rw [q]; simp)]; rfl
    · have q' : slB n = true := by simpa using q
      have hn := sl_in q'
      rw [if_neg q, cm_b c0 c1 c2 ⟨c3.1, c3.2, q'⟩]
      unfold dnB
      generalize hb : beh (sl B n.toNat) (la B : Int) k e a = b
      show (⟨if b.2 = 1 ∧ 0 < n then B.set n.toNat b.1 else B, b.2, n⟩ : Ans) = _
      by_cases c : b.2 = 1
      · rw [if_pos ⟨c, by omega⟩]
      · have hno : b.1 = sl B n.toNat := by rw [← hb]; exact beh_no (by rw [hb]; exact c)
        rw [if_neg (fun h => c h.1), hno, set_self hw.nine (by omega)]
  · have hd : doB B k n e a = ⟨B, 5, 0⟩ := by unfold doB; rw [if_neg c0, if_neg c1, if_neg c2, if_neg c3]
    rw [hd, cm_5 c0 c1 c2 (fun h => c3 ⟨h.1, h.2.1⟩)]; rfl
theorem cmR_len {B : Bd} (hw : Wf B) {k n e a : Int} : (cmR B k n e a).s.length = 66 := by
  have hz : z66.length = 66 := by simp [z66]
  unfold cmR
  split
  · exact hz
  · split
    · exact hz
    · split
      · split
        · exact one_len 1
        · exact hz
      · split
        · rename_i q
          have hn := sl_in q.2.2
          exact beh_length (hw.sl (by omega))
        · exact hz
theorem dnB_wf {B : Bd} (hw : Wf B) {k n e a : Int} : Wf (dnB B (cmR B k n e a)) := by
  unfold dnB
  split
  · exact hw.set (cmR_len hw)
  · exact hw
end Go.Proofs.Ytfhlbndilkidhaa.slots
