/- slots: the plain mathematics of SlotsFull and SlotsHeal. No program is named here. -/
import Derived.Test.YtfhlbndilkidhabSltS
namespace Go.Proofs.Ytfhlbndilkidhab.slots
set_option linter.unusedVariables false

def cnt (B : Bd) : Nat := B.countP (fun s => st s != 0)
theorem cnt_step {B : Bd} {k : Nat} (h : k < B.length) : cnt (B.drop k) = (if cl (sl B k) 0 = 0 then 0 else 1) + cnt (B.drop (k + 1)) := by
  unfold cnt
  have e : B[k]'h = sl B k := by
    have := sl_at h
    rw [List.getElem?_eq_getElem h] at this
    exact Option.some.inj this
  rw [List.drop_eq_getElem_cons h, e, List.countP_cons]
  by_cases q : cl (sl B k) 0 = 0
  · have : (st (sl B k) != 0) = false := by unfold st; rw [q]; rfl
    simp [q, this]
  · have : (st (sl B k) != 0) = true := by unfold st; simpa using q
    simp [q, this]; omega
theorem full {B : Bd} (hw : Wf B) (hok : Ok B) : cnt B ≤ 8 ∧ ((doB B 2 0 0 0).c = 9 ↔ cnt B = 8) ∧ ((doB B 2 0 0 0).n = 0 ↔ cnt B = 8) := by
  have hn := hw.nine
  have e : doB B 2 0 0 0 = enb B := by unfold doB; rw [(chk_iff hw).2 hok, if_neg (by simp), if_neg (by omega), if_pos rfl]
  have hc0 : cnt B = 0 + cnt (B.drop 1) := by
    have h0 := cnt_step (B := B) (k := 0) (by omega)
    rw [List.drop_zero] at h0
    have hz : cl (sl B 0) 0 = 0 := by rw [hok.zero]; rfl
    rw [h0, if_pos hz]
  have hlen : (B.drop 1).length = 8 := by rw [List.length_drop]; omega
  have hle : cnt (B.drop 1) ≤ 8 := by rw [← hlen]; exact List.countP_le_length
  have h8 : cnt (B.drop 1) = 8 ↔ ∀ i, 1 ≤ i → i < 9 → sl B i ≠ z66 := by
    rw [← hlen]
    unfold cnt
    rw [List.countP_eq_length]
    constructor
    · intro h i h1 h2 hz
      have hm : sl B i ∈ B.drop 1 := by
        rw [List.mem_drop_iff_getElem]
        have e := sl_at (B := B) (i := i) (by omega)
        rw [List.getElem?_eq_getElem (by omega)] at e
        refine ⟨i - 1, by omega, ?_⟩
        have e2 := Option.some.inj e
        have e3 : i - 1 + 1 = i := by omega
        first
          | (simp only [e3]; exact e2)
          | (simp only [show 1 + (i - 1) = i by omega]; exact e2)
      have := h _ hm
      rw [hz] at this
      exact absurd this (by decide)
    · intro h t ht
      rw [List.mem_drop_iff_getElem] at ht
      obtain ⟨j, hj, ej⟩ := ht
      have hj9 : j + 1 < 9 := by omega
      have e : sl B (j + 1) = t := by
        have e := sl_at (B := B) (i := j + 1) (by omega)
        rw [List.getElem?_eq_getElem (by omega)] at e
        rw [← Option.some.inj e]
        first
          | exact ej
          | (rw [← ej]; congr 1; omega)
      have hne := h (j + 1) (by omega) hj9
      have hr := hok.right (j + 1) hj9
      rw [← e]
      by_cases q : st (sl B (j + 1)) = 0
      · exact absurd (right_0 hr q) hne
      · simpa using q
  rw [e, hc0, Nat.zero_add]
  unfold enb
  have hf := fr_le B
  by_cases f : fr B ≤ 8
  · rw [if_pos f]
    have hno : ¬ cnt (B.drop 1) = 8 := fun q => h8.1 q (fr B) hf.1 (by omega) (fr_is f)
    refine ⟨hle, ⟨fun q => absurd q (show ¬ (1 : Int) = 9 by decide), fun q => absurd q hno⟩, ⟨fun q => ?_, fun q => absurd q hno⟩⟩
    have : (fr B : Int) = 0 := q
    omega
  · rw [if_neg f]
    have hyes : cnt (B.drop 1) = 8 := h8.2 fun i h1 h2 hz => by
      have hm := (lst_is (onZ B)).all i h1 (by show i < fr B; omega)
      exact (mem_onZ.1 hm).2 hz
    exact ⟨hle, ⟨fun _ => hyes, fun _ => rfl⟩, ⟨fun _ => hyes, fun _ => rfl⟩⟩
theorem Ok.same {B : Bd} (h : Ok B) (hw : Wf B) {m : Nat} {t : List Int} (h1 : 1 ≤ m) (h2 : m < 9) (hr : Go.Proofs.Ytfhlbndilkidhab.slots.right t = true) (ha : ad t = ad (sl B m)) : Ok (B.set m t) :=
  h.set hw h1 h2 hr (fun j hj hjm e => by
    rw [ha] at e ⊢
    rcases Nat.lt_or_gt_of_ne hjm with y | y
    · have := h.apart j m y h2 e.symm
      omega
    · exact h.apart m j y hj e)
theorem heal_do {B : Bd} (hw : Wf B) (hok : Ok B) {m : Nat} {t : List Int} {k e a : Int} (h1 : 1 ≤ m) (h2 : m < 9) (hl : t.length = 66) (hb : Big t) (ha : ad t = ad (sl B m)) (hk : 6 ≤ k ∧ k ≤ 9) :
    doB (B.set m t) k (m : Int) e a = ⟨B.set m (atE t k e a).1, (atE t k e a).2, (m : Int)⟩ := by
  have hxw : Wf (B.set m t) := hw.set hl
  have hxc := (chk_iff hxw).2 (hok.same hw h1 h2 (right_iff.2 (.inr (.inr hb))) ha)
  have hsl : slB (m : Int) = true := by unfold slB; simp; omega
  have ht : ((m : Nat) : Int).toNat = m := by omega
  have hst := hb.st
  unfold doB
  rw [hxc, if_neg (by simp), if_neg (by omega), if_neg (by omega), if_pos (by omega)]
  unfold ats
  rw [hsl, if_neg (by simp), ht, sl_set hw.nine h2, if_pos rfl]
  have e : ∀ x, beh t x k e a = atE t k e a := fun x => by
    unfold beh
    rw [if_neg (by omega), if_neg (by omega), if_neg (by omega), if_neg (by omega)]
  rw [e, List.set_set]
structure Heal (B : Bd) (m j : Nat) (v : Int) : Prop where
  ring : (doB (B.set m ((sl B m).set (2 + j) 2)) 9 (m : Int) (j : Int) 0).c = 19
  r6 : doB (B.set m ((sl B m).set (2 + j) 2)) 6 (m : Int) (j : Int) v = ⟨B.set m ((sl B m).set (2 + j) 3), 1, (m : Int)⟩
  r8 : doB (B.set m ((sl B m).set (2 + j) 3)) 8 (m : Int) (j : Int) v = ⟨B.set m (((sl B m).set (2 + j) 3).set (34 + j) v), 1, (m : Int)⟩
  r9 : doB (B.set m (((sl B m).set (2 + j) 3).set (34 + j) v)) 9 (m : Int) (j : Int) v = ⟨B.set m ((sl B m).set (34 + j) v), 1, (m : Int)⟩
theorem heals {B : Bd} (hw : Wf B) (hok : Ok B) {m j : Nat} {v : Int} (h1 : 1 ≤ m) (h2 : m < 9) (j1 : 1 ≤ j) (j2 : j < 32) (he : en (sl B m) j = 1) (v1 : 0 ≤ v) (v2 : v ≤ 65535) : Heal B m j v := by
  have hs := hw.sl h2
  have hbig : Big (sl B m) := by
    rcases right_iff.1 (hok.right m h2) with z | z | z
    · rw [z, en_one] at he; omega
    · rw [z, en_one] at he; omega
    · exact z
  generalize hsm : sl B m = s at *
  have b2 : Big (s.set (2 + j) 2) := big_end hs hbig j1 j2 (by omega) (.inr (.inl rfl))
  have b3 : Big (s.set (2 + j) 3) := big_end hs hbig j1 j2 (by omega) (.inr (.inr rfl))
  have l2 : (s.set (2 + j) 2).length = 66 := by rw [List.length_set]; exact hs
  have l3 : (s.set (2 + j) 3).length = 66 := by rw [List.length_set]; exact hs
  have e2 : en (s.set (2 + j) 2) j = 2 := by rw [en_set hs j2 j2, if_pos rfl]
  have e3 : en (s.set (2 + j) 3) j = 3 := by rw [en_set hs j2 j2, if_pos rfl]
  have b4 : Big ((s.set (2 + j) 3).set (34 + j) v) := big_mark l3 b3 j2 (by omega) v1 v2
  have l4 : ((s.set (2 + j) 3).set (34 + j) v).length = 66 := by rw [List.length_set]; exact l3
  have e4 : en ((s.set (2 + j) 3).set (34 + j) v) j = 3 := by rw [en_set_mk l3 j2]; exact e3
  have a2 : ad (s.set (2 + j) 2) = ad (sl B m) := by rw [ad_set hs (by omega), hsm]
  have a3 : ad (s.set (2 + j) 3) = ad (sl B m) := by rw [ad_set hs (by omega), hsm]
  have a4 : ad ((s.set (2 + j) 3).set (34 + j) v) = ad (sl B m) := by rw [ad_set l3 (by omega)]; exact a3
  have hed : edB (j : Int) = true := by unfold edB; simp; omega
  have ht : ((j : Nat) : Int).toNat = j := by omega
  have hv : mkB v = true := mkB_iff.2 ⟨v1, v2⟩
  refine ⟨?_, ?_, ?_, ?_⟩
  · rw [hsm, heal_do hw hok h1 h2 l2 b2 a2 (by omega)]
    unfold atE
    rw [hed, if_neg (by simp), ht, e2, if_neg (by omega), if_neg (by omega)]
    rfl
  · rw [hsm, heal_do hw hok h1 h2 l2 b2 a2 (by omega)]
    unfold atE
    rw [hed, if_neg (by simp), ht, e2, if_neg (by omega), if_neg (by omega)]
    have : (nxt 6 2).2 = true := rfl
    rw [if_pos this, List.set_set]
    rfl
  · rw [hsm, heal_do hw hok h1 h2 l3 b3 a3 (by omega)]
    unfold atE
    rw [hed, if_neg (by simp), ht, e3, if_neg (by omega), if_pos rfl]
    unfold mrk
    rw [hv, if_neg (by simp), e3, if_pos rfl]
  · rw [hsm, heal_do hw hok h1 h2 l4 b4 a4 (by omega)]
    unfold atE
    rw [hed, if_neg (by simp), ht, e4, if_neg (by omega), if_neg (by omega)]
    have : (nxt 9 3).2 = true := rfl
    rw [if_pos this]
    have hfin : ((s.set (2 + j) 3).set (34 + j) v).set (2 + j) (nxt 9 3).1 = s.set (34 + j) v := by
      refine cl_ext (n := 66) (by rw [List.length_set]; exact l4) (by rw [List.length_set]; exact hs) fun i hi => ?_
      rw [cl_set, cl_set, cl_set, cl_set]
      simp only [List.length_set, hs]
      have hej : cl s (2 + j) = 1 := he
      by_cases q : i = 2 + j
      · subst q
        rw [if_pos ⟨rfl, by omega⟩, if_neg (by omega), hej]
        rfl
      · rw [if_neg (by omega)]
        by_cases q2 : i = 34 + j
        · rw [if_pos ⟨q2, by omega⟩, if_pos ⟨q2, by omega⟩]
        · rw [if_neg (by omega), if_neg (by omega), if_neg (by omega)]
    rw [hfin]
end Go.Proofs.Ytfhlbndilkidhab.slots
