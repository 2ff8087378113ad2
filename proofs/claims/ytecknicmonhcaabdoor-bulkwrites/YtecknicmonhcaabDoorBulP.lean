/- bulk: what is plain about writes that are read back. -/
import Derived.Test.YtecknicmonhcaabDoorBulN
import Derived.Test.YtecknicmonhcaabDoorScsV
import Derived.Test.YtecknicmonhcaabDoorScsF
namespace Go.Proofs.YtecknicmonhcaabDoor.bulk
open Go Go.RowKit Go.PlainAid Go.Proofs.YtecknicmonhcaabDoor.lane Go.Proofs.YtecknicmonhcaabDoor.pipe Go.Proofs.YtecknicmonhcaabDoor.strike Go.Proofs.YtecknicmonhcaabDoor.scsi
set_option linter.unusedVariables false
set_option linter.unusedSimpArgs false
set_option maxRecDepth 100000

def wy (len : Int) (K : ByteArray) : Wp := ⟨0, len, false, 0, K⟩
def ry (n : Int) (K : ByteArray) : Wp := ⟨7, n, true, 0, K⟩
theorem wy_ok {len lba cnt : Int} (h0 : 0 ≤ len) (h1 : len ≤ 4294967295) (hm : mkB 42 lba cnt = true) : wk (wy len (mkT 42 lba cnt)) = true := by
  rw [wk_iff]
  unfold wy
  simp only
  rw [mk_size hm]
  omega
theorem ry_ok {n lba cnt : Int} (h0 : 0 ≤ n) (h1 : n ≤ 4294967295) (hm : mkB 40 lba cnt = true) : wk (ry n (mkT 40 lba cnt)) = true := by
  rw [wk_iff]
  unfold ry
  simp only
  rw [mk_size hm]
  omega
theorem cut_front (t : ByteArray) (n : Nat) : cut16 n (t.extract 0 (16 * n)) = cut16 n t := by
  unfold cut16
  apply List.map_congr_left
  intro i hi
  have hi := List.mem_range.1 hi
  apply nums_inj
  rw [nums_cut, nums_cut, nums_cut, List.drop_zero, Nat.sub_zero, List.drop_take, List.take_take, Nat.min_eq_left (by omega)]
theorem wr_front (b : List ByteArray) (i n : Nat) (t : ByteArray) : wrB b i n (t.extract 0 (16 * n)) = wrB b i n t := by unfold wrB; rw [cut_front]
theorem ask_write {lba cnt : Int} (hm : mkB 42 lba cnt = true) : askN (mkT 42 lba cnt) = 16 * cnt.toNat := by
  unfold askN
  rw [mk_nums hm, cmd_cnt hm, if_pos ⟨cmd_fm ((op_iff 42).2 (.inr (.inl rfl))), rfl⟩]
theorem bw_served {d : Dk} {len lba cnt : Int} {t : ByteArray} (h0 : 0 ≤ len) (h1 : len ≤ 4294967295) (hm : mkB 42 lba cnt = true) (hC : tkE d (wrT (wy len (mkT 42 lba cnt))) t = 0) :
    chkC (svD d (wrT (wy len (mkT 42 lba cnt))) t) = 0 ∧ (svD d (wrT (wy len (mkT 42 lba cnt))) t).b.length = d.b.length ∧ d.b.length ≤ 64 ∧
    (svC d (wrT (wy len (mkT 42 lba cnt))) t = 0 ∧ 0 < cnt → 16 * cnt ≤ len ∧ lba.toNat + cnt.toNat ≤ d.b.length ∧ (t.size : Int) = len ∧ (svD d (wrT (wy len (mkT 42 lba cnt))) t).b = wrB d.b lba.toNat cnt.toNat t) ∧
    (¬ (svC d (wrT (wy len (mkT 42 lba cnt))) t = 0 ∧ 0 < cnt) → (svD d (wrT (wy len (mkT 42 lba cnt))) t).b = d.b) := by
  have hk := wy_ok h0 h1 hm
  obtain ⟨r1, r2⟩ := rd_ok hk
  obtain ⟨k1, k2, k3, k4, k5, k6, k7⟩ := tk_ok hC
  obtain ⟨f1, f2, f3, f4, f5, f6, f7⟩ := sv_facts k1 k4
  obtain ⟨m1, m2, m3, m4⟩ := mk_range hm
  have hn : ¬ tkE d (wrT (wy len (mkT 42 lba cnt))) t ≠ 0 := fun q => q hC
  have hD : svD d (wrT (wy len (mkT 42 lba cnt))) t = if (svV d (rdW (wrT (wy len (mkT 42 lba cnt))))).code = 2 then d else doD d (rdW (wrT (wy len (mkT 42 lba cnt)))).cmd (gvS d (wrT (wy len (mkT 42 lba cnt))) t) := if_neg hn
  have hS : svC d (wrT (wy len (mkT 42 lba cnt))) t = if (svV d (rdW (wrT (wy len (mkT 42 lba cnt))))).code = 2 then 2 else if doC d (rdW (wrT (wy len (mkT 42 lba cnt)))).cmd (gvS d (wrT (wy len (mkT 42 lba cnt))) t) ≠ 0 then 1 else 0 := rfl
  have hG : gvS d (wrT (wy len (mkT 42 lba cnt))) t = gvT (rdW (wrT (wy len (mkT 42 lba cnt)))) (svV d (rdW (wrT (wy len (mkT 42 lba cnt))))) t := rfl
  rw [hD, hS]
  generalize svD d (wrT (wy len (mkT 42 lba cnt))) t = X at *
  generalize svC d (wrT (wy len (mkT 42 lba cnt))) t = Y at *
  generalize gvS d (wrT (wy len (mkT 42 lba cnt))) t = g at *
  rw [r2] at *
  have hcm : (wy len (mkT 42 lba cnt)).cmd = mkT 42 lba cnt := rfl
  have hlen : (wy len (mkT 42 lba cnt)).len = len := rfl
  rw [hcm]
  have h64 := ((chk_iff d).1 k1).2.1
  by_cases h2 : (svV d (wy len (mkT 42 lba cnt))).code = 2
  · rw [if_pos h2, if_pos h2]
    exact ⟨k1, rfl, h64, fun q => absurd q.1 (by decide), fun _ => rfl⟩
  · rw [if_neg h2, if_neg h2]
    obtain ⟨q1, q2⟩ := do_right (c := mkT 42 lba cnt) (x := g) k1
    by_cases h3 : doC d (mkT 42 lba cnt) g = 0
    · rw [if_neg (fun n => n h3)]
      obtain ⟨_, w1, w2, w3, _⟩ := write_do hm h3
      refine ⟨q1, q2, h64, fun q => ?_, fun q => ?_⟩
      · have hp := q.2
        have ha := ask_write hm
        have hz := write_ok (x := rpt 0 (askN (mkT 42 lba cnt))) hm k1 w1 (by rw [rpt_size, ha])
        have hv : dvV d (mkT 42 lba cnt) = ⟨2, 16 * cnt⟩ := by
          unfold dvV
          rw [if_pos ⟨hz, by rw [ha]; omega⟩, ha]
          unfold mvOf
          rw [if_neg (by omega)]
          congr 1
          omega
        have e12 := f6 h2
        rw [hcm, hv] at e12
        obtain ⟨e1, e2⟩ := e12
        rcases e2 with e2 | ⟨e2, e3⟩
        · exact absurd (show (2 : Int) = 0 from e2) (by decide)
        · have e2 : 2 = (hsV (wy len (mkT 42 lba cnt))).dir := e2
          have e3 : 16 * cnt ≤ len := e3
          have e1 : (svV d (wy len (mkT 42 lba cnt))).moved = min len (16 * cnt) := e1
          have hts : (t.size : Int) = len := Classical.not_not.1 fun n => k5 ⟨e2.symm, h2, n⟩
          refine ⟨e3, w1, hts, ?_⟩
          rw [w3]
          show wrB _ _ _ g = _
          have hg : g = t.extract 0 (16 * cnt.toNat) := by
            rw [hG]
            unfold gvT
            rw [if_neg (by show ¬ (false = true); decide), e1]
            congr 1
            omega
          rw [hg, wr_front]
      · have hc : cnt = 0 := by
          have : ¬ 0 < cnt := fun n => q ⟨rfl, n⟩
          omega
        rw [w3, hc]
        exact wr_zero _ _ _
    · rw [if_pos h3]
      exact ⟨q1, q2, h64, fun q => absurd q.1 (by decide), fun _ => (do_none h3).2⟩
theorem bw_second {d : Dk} {lba cnt : Int} (hd : chkC d = 0) (hm : mkB 40 lba cnt = true) : tkE d (wrT (ry (16 * cnt) (mkT 40 lba cnt))) ⟨#[]⟩ = 0 := by
  obtain ⟨m1, m2, m3, m4⟩ := mk_range hm
  have hk := ry_ok (n := 16 * cnt) (by omega) (by omega) hm
  obtain ⟨r1, r2⟩ := rd_ok hk
  unfold tkE
  rw [if_neg (fun q => q hd), r2, if_neg (fun q => q.elim (fun z => z r1) (fun z => z rfl)), if_neg]
  rintro ⟨q, _⟩
  rw [hs_dir] at q
  split at q
  · cases q
  · exact absurd (show (1 : Int) = 2 from q) (by decide)
theorem bw_in {d : Dk} {lba cnt : Int} (hd : chkC d = 0) (hm : mkB 40 lba cnt = true) (hp : 0 < cnt) (hf : lba.toNat + cnt.toNat ≤ d.b.length) :
    svA d (wrT (ry (16 * cnt) (mkT 40 lba cnt))) ⟨#[]⟩ = cat ((d.b.drop lba.toNat).take cnt.toNat) := by
  obtain ⟨m1, m2, m3, m4⟩ := mk_range hm
  have hk := ry_ok (n := 16 * cnt) (by omega) (by omega) hm
  obtain ⟨r1, r2⟩ := rd_ok hk
  have h16 := ((chk_iff d).1 hd).2.2.1
  unfold svA
  rw [if_neg (fun q => q (bw_second hd hm)), r2]
  have ha : askN (mkT 40 lba cnt) = 0 := ask_other (by rw [mk_nums hm]; show (40 : Int) ≠ 42; decide)
  have hs : (cat ((d.b.drop lba.toNat).take cnt.toNat)).size = 16 * cnt.toNat := by
    rw [size16 _ fun y hy => h16 y (List.mem_of_mem_drop (List.mem_of_mem_take hy)), List.length_take, List.length_drop]; omega
  have hv : dvV d (mkT 40 lba cnt) = mvOf 1 (16 * cnt) := by
    unfold dvV
    rw [if_neg (by rw [ha]; exact fun q => absurd q.2 (by decide)), (read_ok hm hd hf).2.2, hs]
    congr 1
    omega
  have hh : hsV (ry (16 * cnt) (mkT 40 lba cnt)) = mvOf 1 (16 * cnt) := rfl
  have hmv := mvOf_right 1 (.inl rfl) (16 * cnt) (by omega) (by omega)
  have hcode : (svV d (ry (16 * cnt) (mkT 40 lba cnt))).code ≠ 2 := by
    unfold svV
    rw [hh, show (ry (16 * cnt) (mkT 40 lba cnt)).cmd = mkT 40 lba cnt from rfl, hv, (jd_ok hmv.1 hmv.1).2, if_neg (by rw [(mkd_iff hmv.1 hmv.1).2 (.inr ⟨rfl, Int.le_refl _⟩)]; decide)]
    show (0 : Int) ≠ 2
    decide
  rw [if_neg hcode]
  exact (read_ok hm hd hf).2.2
theorem bw_back {d d2 : Dk} {lba cnt : Int} {t : ByteArray} (hd : chkC d2 = 0) (hm : mkB 40 lba cnt = true) (hp : 0 < cnt) (hf : lba.toNat + cnt.toNat ≤ d.b.length) (hb : d2.b = wrB d.b lba.toNat cnt.toNat t) (ht : 16 * cnt ≤ (t.size : Int)) :
    svA d2 (wrT (ry (16 * cnt) (mkT 40 lba cnt))) ⟨#[]⟩ = t.extract 0 (16 * cnt.toNat) := by
  obtain ⟨m1, m2, m3, m4⟩ := mk_range hm
  rw [bw_in hd hm hp (by rw [hb, wr_length hf]; exact hf), hb, ← wr_front]
  exact wr_read hf (by rw [ByteArray.size_extract]; omega)
end Go.Proofs.YtecknicmonhcaabDoor.bulk
