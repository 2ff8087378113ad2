/- scsi: what is plain about commands that are about blocks. -/
import Derived.Test.YtecknicmonhcaabDoorScsP
namespace Go.Proofs.YtecknicmonhcaabDoor.scsi
open Go.RowKit Go.PlainAid Go.Proofs.YtecknicmonhcaabDoor.lane Go.Proofs.YtecknicmonhcaabDoor.pipe Go.Proofs.YtecknicmonhcaabDoor.strike
set_option linter.unusedVariables false
set_option maxRecDepth 100000

theorem cmd_fm {op lba cnt : Int} (h : opB op = true) : fmC (cmdL op lba cnt) = 0 := by
  rcases (op_iff op).1 h with rfl | rfl | rfl <;> simp [fmC, cmdL, frm, be4, be2, ok2, okb]
theorem mk_sn {op lba cnt : Int} (h : mkB op lba cnt = true) (n z : Nat) : snS n (nums (mkT op lba cnt)) z = if (n : Int) < lba + cnt then 33 else if op = 42 ∧ (z : Int) ≠ 16 * cnt then 36 else 0 := by
  have ho : opB op = true := (op_iff op).2 ((mk_iff _ _ _).1 h).1
  rw [mk_nums h]
  unfold snS
  rw [if_neg (by rw [cmd_fm ho]; decide), cmd_lba h, cmd_cnt h, show (cmdL op lba cnt).getD 0 0 = op from rfl, if_pos ho]
theorem mk_size {op lba cnt : Int} (h : mkB op lba cnt = true) : (mkT op lba cnt).size = 10 := by
  rw [← nums_length, mk_nums h]; simp [cmdL, be4, be2]
theorem mk_max (op lba cnt : Int) : (mkT op lba cnt).size ≤ maxLen := by
  by_cases h : mkB op lba cnt = true
  · rw [mk_size h]; decide
  · unfold mkT; rw [if_neg h]; decide
theorem mk_range {op lba cnt : Int} (h : mkB op lba cnt = true) : 0 ≤ lba ∧ lba ≤ 4294967295 ∧ 0 ≤ cnt ∧ cnt ≤ 65535 := ((mk_iff _ _ _).1 h).2
theorem mk_both (op1 op2 lba cnt : Int) (h1 : opB op1 = true) (h2 : opB op2 = true) : mkB op1 lba cnt = mkB op2 lba cnt := by unfold mkB; rw [h1, h2]
theorem mk_code {op lba cnt : Int} : mkC op lba cnt = 0 ↔ mkB op lba cnt = true := by
  unfold mkC
  split
  · rename_i h; simp [h]
  · rename_i h; simp [h]
/-- a write that is asked for -/
theorem write_do {d : Dk} {lba cnt : Int} {x : ByteArray} (hm : mkB 42 lba cnt = true) (h : doC d (mkT 42 lba cnt) x = 0) :
    chkC d = 0 ∧ lba.toNat + cnt.toNat ≤ d.b.length ∧ x.size = 16 * cnt.toNat ∧ doD d (mkT 42 lba cnt) x = ⟨wrB d.b lba.toNat cnt.toNat x, 0⟩ ∧ doT d (mkT 42 lba cnt) x = ⟨#[]⟩ := by
  obtain ⟨h1, h2⟩ := do_ok h
  obtain ⟨e1, e2⟩ := do_done h
  obtain ⟨r1, r2, r3, r4⟩ := mk_range hm
  rw [mk_sn hm] at h2
  have hf : ¬ (d.b.length : Int) < lba + cnt := fun q => by rw [if_pos q] at h2; cases h2
  rw [if_neg hf] at h2
  have hx : ¬ (x.size : Int) ≠ 16 * cnt := fun q => by rw [if_pos ⟨rfl, q⟩] at h2; cases h2
  refine ⟨h1, by omega, by omega, e1.trans ?_, e2.trans ?_⟩
  · unfold newB
    rw [mk_nums hm, show (cmdL 42 lba cnt).getD 0 0 = 42 from rfl, if_pos rfl, cmd_lba hm, cmd_cnt hm]
  · unfold ansT
    rw [mk_nums hm]; rfl
theorem write_ok {d : Dk} {lba cnt : Int} {x : ByteArray} (hm : mkB 42 lba cnt = true) (h0 : chkC d = 0) (h1 : lba.toNat + cnt.toNat ≤ d.b.length) (h2 : x.size = 16 * cnt.toNat) : doC d (mkT 42 lba cnt) x = 0 := by
  obtain ⟨r1, r2, r3, r4⟩ := mk_range hm
  have hs : snS d.b.length (nums (mkT 42 lba cnt)) x.size = 0 := by
    rw [mk_sn hm, if_neg (by omega), if_neg (fun q => q.2 (by omega))]
  unfold doC
  rw [if_neg (by rw [h0]; decide), if_neg (by rw [hs]; decide)]
/-- a read that is asked for -/
theorem read_ok {d : Dk} {lba cnt : Int} {x : ByteArray} (hm : mkB 40 lba cnt = true) (h0 : chkC d = 0) (h1 : lba.toNat + cnt.toNat ≤ d.b.length) :
    doC d (mkT 40 lba cnt) x = 0 ∧ doD d (mkT 40 lba cnt) x = ⟨d.b, 0⟩ ∧ doT d (mkT 40 lba cnt) x = cat ((d.b.drop lba.toNat).take cnt.toNat) := by
  obtain ⟨r1, r2, r3, r4⟩ := mk_range hm
  have hs : snS d.b.length (nums (mkT 40 lba cnt)) x.size = 0 := by
    rw [mk_sn hm, if_neg (by omega), if_neg (fun q => absurd q.1 (by decide))]
  have hc : doC d (mkT 40 lba cnt) x = 0 := by
    unfold doC
    rw [if_neg (by rw [h0]; decide), if_neg (by rw [hs]; decide)]
  obtain ⟨e1, e2⟩ := do_done hc
  refine ⟨hc, e1.trans ?_, e2.trans ?_⟩
  · unfold newB; rw [mk_nums hm]; rfl
  · unfold ansT
    rw [mk_nums hm, show (cmdL 40 lba cnt).getD 0 0 = 40 from rfl, if_neg (by decide), if_neg (by decide), if_neg (by decide), if_neg (by decide), if_pos rfl, cmd_lba hm, cmd_cnt hm]
theorem read_done {d : Dk} {lba cnt : Int} {x : ByteArray} (hm : mkB 40 lba cnt = true) (h : doC d (mkT 40 lba cnt) x = 0) : chkC d = 0 ∧ lba.toNat + cnt.toNat ≤ d.b.length := by
  obtain ⟨h1, h2⟩ := do_ok h
  obtain ⟨r1, r2, r3, r4⟩ := mk_range hm
  rw [mk_sn hm] at h2
  have hf : ¬ (d.b.length : Int) < lba + cnt := fun q => by rw [if_pos q] at h2; cases h2
  exact ⟨h1, by omega⟩
theorem wr_right {d : Dk} {i n : Nat} {x : ByteArray} (h0 : chkC d = 0) (h1 : i + n ≤ d.b.length) (h2 : x.size = 16 * n) : chkC ⟨wrB d.b i n x, 0⟩ = 0 := by
  have hc := (chk_iff d).1 h0
  have hl := wr_length (x := x) h1
  exact (chk_iff _).2 ⟨by show 1 ≤ (wrB _ _ _ _).length; omega, by show (wrB _ _ _ _).length ≤ 64; omega, wr_size hc.2.2.1 h2, .inl rfl⟩
end Go.Proofs.YtecknicmonhcaabDoor.scsi
