/- scsi: what is plain about Do: what fails tells nothing and changes nothing. -/
import Derived.Test.YtecknicmonhcaabDoorScsL
namespace Go.Proofs.YtecknicmonhcaabDoor.scsi
open Go.RowKit Go.PlainAid Go.Proofs.YtecknicmonhcaabDoor.lane Go.Proofs.YtecknicmonhcaabDoor.pipe Go.Proofs.YtecknicmonhcaabDoor.strike
set_option linter.unusedVariables false
set_option maxRecDepth 100000

theorem sn_fm {n : Nat} {L : List Int} {z : Nat} (h : snS n L z = 0) : fmC L = 0 := by
  unfold snS at h
  split at h
  · rename_i q; exact absurd h q
  · rename_i q; exact Classical.not_not.1 q
theorem do_ok {d : Dk} {c x : ByteArray} (h : doC d c x = 0) : chkC d = 0 ∧ snS d.b.length (nums c) x.size = 0 := by
  unfold doC at h
  split at h
  · rename_i q; exact absurd h q
  · rename_i q
    refine ⟨Classical.not_not.1 q, ?_⟩
    split at h
    · cases h
    · rename_i q2; exact Classical.not_not.1 q2
theorem do_full {d : Dk} {c x : ByteArray} (h : doC d c x = 0) : 0 < c.size := (fm_zero c (sn_fm (do_ok h).2)).1
theorem do_none {d : Dk} {c x : ByteArray} (h : doC d c x ≠ 0) : doT d c x = ⟨#[]⟩ ∧ (doD d c x).b = d.b := by
  unfold doC at h
  unfold doT doD
  split at h
  · rename_i q; rw [if_pos q, if_pos q]; exact ⟨rfl, rfl⟩
  · rename_i q
    rw [if_neg q, if_neg q]
    split at h
    · rename_i q2; rw [if_pos q2, if_pos q2]; exact ⟨rfl, rfl⟩
    · exact absurd rfl h
theorem do_done {d : Dk} {c x : ByteArray} (h : doC d c x = 0) : doD d c x = ⟨newB d.b (nums c) x, 0⟩ ∧ doT d c x = ansT d (nums c) := by
  obtain ⟨h1, h2⟩ := do_ok h
  unfold doD doT
  have n1 : ¬ chkC d ≠ 0 := by rw [h1]; decide
  have n2 : ¬ snS d.b.length (nums c) x.size ≠ 0 := by rw [h2]; decide
  exact ⟨(if_neg n1).trans (if_neg n2), (if_neg n1).trans (if_neg n2)⟩
theorem do_same {d : Dk} {c x : ByteArray} (h : ¬ (doC d c x = 0 ∧ bt c 0 = 42)) : (doD d c x).b = d.b := by
  by_cases hz : doC d c x = 0
  · rw [(do_done hz).1]
    show newB _ _ _ = _
    unfold newB
    rw [if_neg]
    rw [← bt_nums c 0 (do_full hz)]
    exact fun q => h ⟨hz, q⟩
  · exact (do_none hz).2
/-- the codes of Do -/
theorem do_codes (d : Dk) (c x : ByteArray) : doC d c x = 0 ∨ doC d c x = 1 ∨ doC d c x = 4 ∨ doC d c x = 14 := by
  unfold doC
  split
  · rename_i h; have := chk_code d h; omega
  · split <;> omega
/-- a write that is done -/
theorem do_fits {d : Dk} {c x : ByteArray} (h : snS d.b.length (nums c) x.size = 0) (h42 : (nums c).getD 0 0 = 42) : (lbaL (nums c)).toNat + (cntL (nums c)).toNat ≤ d.b.length ∧ x.size = 16 * (cntL (nums c)).toNat := by
  have hf := sn_fm h
  have l := lba_range c
  have q := cnt_range c
  unfold snS at h
  rw [if_neg (by rw [hf]; decide), h42, if_pos (by decide)] at h
  split at h
  · cases h
  · split at h
    · cases h
    · rename_i h1 h2
      have h3 : ¬ (x.size : Int) ≠ 16 * cntL (nums c) := fun e => h2 ⟨rfl, e⟩
      omega
theorem new_right {d : Dk} {c x : ByteArray} (h : chkC d = 0) (hs : snS d.b.length (nums c) x.size = 0) : (newB d.b (nums c) x).length = d.b.length ∧ ∀ y ∈ newB d.b (nums c) x, y.size = 16 := by
  have hc := (chk_iff d).1 h
  unfold newB
  split
  · rename_i q
    have hf := do_fits hs q
    exact ⟨wr_length hf.1, wr_size hc.2.2.1 hf.2⟩
  · exact ⟨rfl, hc.2.2.1⟩
/-- a right disk stays right -/
theorem do_right {d : Dk} {c x : ByteArray} (h : chkC d = 0) : chkC (doD d c x) = 0 ∧ (doD d c x).b.length = d.b.length := by
  have hc := (chk_iff d).1 h
  have n1 : ¬ chkC d ≠ 0 := by rw [h]; decide
  unfold doD
  rw [if_neg n1]
  by_cases hs : snS d.b.length (nums c) x.size = 0
  · rw [if_neg (by rw [hs]; decide)]
    have := new_right h hs
    exact ⟨(chk_iff _).2 ⟨by show 1 ≤ (newB _ _ _).length; omega, by show (newB _ _ _).length ≤ 64; omega, this.2, .inl rfl⟩, this.1⟩
  · rw [if_pos hs]
    exact ⟨(chk_iff _).2 ⟨hc.1, hc.2.1, hc.2.2.1, sn_code _ _ _⟩, rfl⟩
def c03 : ByteArray := ⟨#[3, 0, 0, 0, 255, 0]⟩
theorem sense_do {d : Dk} (h : chkC d = 0) : doD d c03 ⟨#[]⟩ = ⟨d.b, 0⟩ ∧ doT d c03 ⟨#[]⟩ = strOfNums (senL d.s) ∧ doC d c03 ⟨#[]⟩ = 0 := by
  have hn : nums c03 = [3, 0, 0, 0, 255, 0] := rfl
  have hs : snS d.b.length (nums c03) (⟨#[]⟩ : ByteArray).size = 0 := by
    rw [hn]; rfl
  have hc : doC d c03 ⟨#[]⟩ = 0 := by
    unfold doC; rw [if_neg (by rw [h]; decide), if_neg (by rw [hs]; decide)]
  have := do_done hc
  refine ⟨this.1.trans ?_, this.2.trans ?_, hc⟩
  · rw [hn]; rfl
  · rw [hn]; rfl
theorem do_case (d : Dk) (c x : ByteArray) (h : doC d c x = 0 ∨ doC d c x = 14) : chkC d = 0 ∧ (doC d c x = 0 ∧ (doD d c x).s = 0 ∨ doC d c x = 14 ∧ ((doD d c x).s = 32 ∨ (doD d c x).s = 33 ∨ (doD d c x).s = 36)) := by
  have h0 : chkC d = 0 := by
    rcases h with h | h
    · exact (do_ok h).1
    · by_cases hc : chkC d = 0
      · exact hc
      · have hz := chk_code d hc
        unfold doC at h; rw [if_pos hc] at h; omega
  refine ⟨h0, ?_⟩
  have n1 : ¬ chkC d ≠ 0 := by rw [h0]; decide
  have hz := sn_code d.b.length (nums c) x.size
  unfold doC doD
  rw [if_neg n1, if_neg n1]
  by_cases hs : snS d.b.length (nums c) x.size = 0
  · rw [if_neg (by rw [hs]; decide), if_neg (by rw [hs]; decide)]
    exact .inl ⟨rfl, rfl⟩
  · rw [if_pos hs, if_pos hs]
    exact .inr ⟨rfl, by show snS _ _ _ = _ ∨ snS _ _ _ = _ ∨ snS _ _ _ = _; omega⟩
theorem do_wrong (d : Dk) (c x : ByteArray) (h : ¬ (doC d c x = 0 ∨ doC d c x = 14)) : doD d c x = d := by
  by_cases hc : chkC d ≠ 0
  · exact if_pos hc
  · exfalso; apply h
    unfold doC; rw [if_neg hc]
    by_cases hs : snS d.b.length (nums c) x.size ≠ 0
    · rw [if_pos hs]; exact .inr rfl
    · rw [if_neg hs]; exact .inl rfl
/-- what Do answers, by names -/
theorem do_named (v : Value) (d : Dk) (c x : ByteArray) (hl : d.b.length * 16 ≤ reachBytes) (hcm : c.size ≤ maxLen) (hx : x.size ≤ maxLen) (T : ByteArray) (C : Int) (N : List ByteArray) (S : Int) (hT : doT d c x = T) (hC : doC d c x = C) (hN : (doD d c x).b = N) (hS : (doD d c x).s = S) (u : World) (h : Rts u v d.b) :
    Calls Tryd.prog 18 #[dkV v d.s, .string c, .string x] u fun e w' => ∃ a cp, e = .returned (.tuple #[dkV (.slice a N.length cp) S, .string T, .int .i64 C]) ∧ Txs w' u.heap.size (.slice a N.length cp) N ∧ Below u.heap.size u w' := by
  subst hT hC hN hS
  refine (do_any v d c x u h (by unfold reachBytes at hl; omega) hcm hx).mono ?_
  rintro e w' ⟨v', rfl, ht, hb⟩
  obtain ⟨a, cp, rfl, _, _⟩ := ht.form
  exact ⟨a, cp, rfl, ht, hb⟩
end Go.Proofs.YtecknicmonhcaabDoor.scsi
