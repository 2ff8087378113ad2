/- plugref's crc: what Five and More answer. -/
import Derived.Test.YtepifjimfcnggaaCrcS
import Derived.Test.YtepifjimfcnggaaCrcA
namespace Go.Proofs.Ytepifjimfcnggaa.crc
open Go.RowKit Go.PlainAid Go.Proofs.Ytepifjimfcnggaa.lane

theorem bseq {w w1 w2 : World} (h1 : Below w.heap.size w w1) (h2 : Below w1.heap.size w1 w2) : Below w.heap.size w w2 := h1.trans (h2.mono h1.size)
theorem turned_of (cs : List Bool) : vb (cs.map (! ·)) = vb cs ^^^ (2 ^ cs.length - 1) := (vb_not cs).1

set_option maxRecDepth 100000 in
theorem rfive_no (n : Nat) (hn : 2048 ≤ n) (w : World) :
    Calls Try.prog 17 #[.int .u16 (n : Int)] w fun e w' => e = .returned (.tuple #[.int .u8 0, .int .i64 1]) ∧ Below w.heap.size w w' := by
  have hn2 : decide ((2048 : Int) ≤ (n : Int)) = true := by simp; omega
  clear hn
  go_enter Try.func17, Try.ntmps17
  go_wp2
  go_ret2
  exact ⟨rfl, Below.refl _ _⟩
set_option maxRecDepth 100000 in
set_option maxHeartbeats 1000000 in
theorem rfive_ok (n : Nat) (hn : n < 2048) (w : World) :
    Calls Try.prog 17 #[.int .u16 (n : Int)] w fun e w' => e = .returned (.tuple #[.int .u8 (five n : Nat), .int .i64 0]) ∧ Below w.heap.size w w' := by
  have hn1 : (n : Int) ≤ 2047 := by omega
  have hn2 : decide ((2048 : Int) ≤ (n : Int)) = false := by simp; omega
  have HN : Hid (n < 2048) := hn
  clear hn
  go_enter Try.func17, Try.ntmps17
  go_wp2_with fail
  refine (bitsOf_any n 11 (by omega) (by decide) _).mono ?_
  rintro e w1 ⟨v1, rfl, hv1, hb1⟩
  go_wp2_with fail
  refine (bitsOf_any 31 5 (by decide) (by decide) _).mono ?_
  rintro e w2 ⟨v2, rfl, hv2, hb2⟩
  have q1 := (hv1.below hb2).base (Nat.zero_le _)
  have q2 := hv2.base (Nat.zero_le _)
  have HB2 : Hid (Below w.heap.size w w2) := bseq hb1 hb2
  clear hv1 hv2 hb1 hb2
  obtain ⟨w3, hw3⟩ : ∃ w3 : World, w3 = w2.alloc (.cells (([false, false, true, false, true] : List Bool).map Value.bool).toArray 4) := ⟨_, rfl⟩
  have hb3 : Below w2.heap.size w2 w3 := by rw [hw3]; exact (Below.refl _ _).alloc (Nat.le_refl _) _
  have q3 := Bls.laid w2 [false, false, true, false, true] (by decide)
  rw [← hw3] at q3
  have hw3' : w2.alloc (.cells #[.bool false, .bool false, .bool true, .bool false, .bool true] 4) = w3 := hw3.symm
  have Q1 : Hid (Bls w3 0 v1 (bitsB n 11)) := q1.below hb3
  have Q2 : Hid (Bls w3 0 v2 (bitsB 31 5)) := q2.below hb3
  have Q3 : Hid (Bls w3 0 (.slice (some ⟨w2.heap.size, 0, none⟩) 5 5) [false, false, true, false, true]) := q3
  have HB3 : Hid (Below w.heap.size w w3) := bseq HB2.out hb3
  clear q1 q2 q3 hb3 HB2 hw3
  go_wp2_with fail
  refine (left_any v1 v2 _ _ _ _ _ Q1.out Q2.out Q3.out (by rw [bitsB_length]; omega) (by decide) (by decide) (by rw [bitsB_length]; rfl)).mono ?_
  rintro e w4 ⟨g, off, cap, cs, rfl, hl, hc, hv, hb4⟩
  have HC : Hid (∀ j x, cs[j]? = some x → w4.cell? ⟨g, off + j, none⟩ = some (.bool x)) := hc
  have HL : Hid (cs.length ≤ 16) := by show _ ≤ _; rw [hl]; decide
  have hval : vb (cs.map (! ·)) = five n := by
    have e1 : vb [false, false, true, false, true] = 20 := by decide
    have e2 : 31 % 2 ^ 5 = 31 := by decide
    have e3 : 2 ^ [false, false, true, false, true].length - 1 = 31 := by decide
    have e4 : n % 2 ^ 11 = n := Nat.mod_eq_of_lt HN.out
    rw [turned_of, hl, hv, vb_bitsB, vb_bitsB, bitsB_length, ref_five n HN.out, e1, e2, e3, e4]
  have HV : Hid (vb (cs.map (! ·)) = five n) := hval
  have HF : Hid (five n < 32) := five_lt n
  clear hval hc hv hl
  go_wp2_with fail
  refine (turnedNum_any g off cap cs HL.out _ HC.out).mono ?_
  rw [HV.out]
  have hf := HF.out
  clear HV HC HF
  generalize he : five n = f at hf ⊢
  have HE : Hid (five n = f) := he
  clear he
  rintro e w5 ⟨rfl, rfl⟩
  go_wp2
  go_ret2
  exact ⟨by rw [HE.out]; rfl, bseq HB3.out hb4⟩

theorem poly16 (w : World) (B g : Nat) (h : BR w B g 16 16 (List.replicate 16 false)) :
    BR (((w.setCell ⟨g, 0, none⟩ (.bool true)).setCell ⟨g, 13, none⟩ (.bool true)).setCell ⟨g, 15, none⟩ (.bool true)) B g 16 16 [true, false, false, false, false, false, false, false, false, false, false, false, false, true, false, true] :=
  ((h.set 0 true).set 13 true).set 15 true
theorem BR.bls {w : World} {B g L cap : Nat} {c : List Bool} (h : BR w B g L cap c) : Bls w B (.slice (some ⟨g, 0, none⟩) L cap) c := by
  have hl := h.len
  subst hl
  exact h
theorem BR.made {w : World} {B g n : Nat} (h : w.ownsRow B 4 1 (.slice (some ⟨g, 0, none⟩) n n) n (madeCells (Value.bool false).cells (n * 1)).toList) : BR w B g n n (List.replicate n false) := by
  have e : (madeCells (Value.bool false).cells (n * 1)).toList = (List.replicate n false).map Value.bool := by
    rw [Nat.mul_one]
    have := toList_madeCells_one (Value.bool false) n
    rw [List.map_replicate]
    exact this
  rw [e] at h
  exact h

set_option maxRecDepth 100000 in
set_option maxHeartbeats 2000000 in
theorem rmore_any (x : Nat) (s : ByteArray) (hx : x < 65536) (hs : s.size ≤ 1048576) (w : World) :
    Calls Try.prog 19 #[.int .u16 (x : Int), .string s] w fun e w' => e = .returned (.int .u16 (more x (nums s) : Nat)) ∧ Below w.heap.size w w' := by
  have hb := get_bt s
  obtain ⟨i0, hi, hz0, hz1, hz2⟩ := info_parts info4
  go_enter Try.func19, Try.ntmps19
  go_wp2
  go_loopw [5, 10] (fun v i wr => ∃ (k : Nat) (acc : List Bool), k ≤ s.size ∧ acc.length = 8 * k ∧ i = .int .i64 (k : Int) ∧ Bls wr w.heap.size v acc ∧ Below w.heap.size w wr ∧ Hid (acc ++ bitsT ((nums s).drop k) = bitsT (nums s)))
    (fun _ i _ => s.size - (intOf i).toNat)
  case atStart => exact ⟨0, [], Nat.zero_le _, rfl, rfl, Bls.nil _ _, Below.refl _ _, rfl⟩
  case round =>
    obtain ⟨k, acc, hk, hl, rfl, hown, hbel, HR⟩ := hrel
    by_cases hlt : k < s.size
    · have b0 := bt_nonneg s k
      have b1 := bt_le s k
      have HD : Hid ((acc ++ bitsB (bt s k).toNat 8) ++ bitsT ((nums s).drop (k + 1)) = bitsT (nums s)) := by
        have h := HR.out
        rw [drop_nums s k hlt] at h
        show _ = _
        rw [List.append_assoc]; exact h
      have HBO : Hid (∀ w : World, Calls Try.prog 32 #[.int .i64 (bt s k), .int .i64 8] w fun e w' => ∃ v, e = .returned v ∧ Bls w' w.heap.size v (bitsB (bt s k).toNat 8) ∧ Below w.heap.size w w') := by
        intro w
        have h := bitsOf_any (bt s k).toNat 8 (by omega) (by decide) w
        rw [show (((bt s k).toNat : Nat) : Int) = bt s k by omega] at h
        exact h
      have HOW : Hid (Bls wr w.heap.size u5 acc) := hown
      have HBE : Hid (Below w.heap.size w wr) := hbel
      clear HR hown hbel
      go_wp2_with fail
      refine (HBO.out _).mono ?_
      rintro e w1 ⟨v, rfl, hv, hb1⟩
      have hbl := bitsB_length (bt s k).toNat 8
      obtain ⟨g, cap, rfl, hg1, hg2, hg3, hg4, hcel⟩ := hv.form (by omega)
      rw [hbl] at hg3 ⊢
      have HO : Hid (Bls w1 w.heap.size u5 acc) := HOW.out.below hb1
      have HB1 : Hid (Below w.heap.size w w1) := bseq HBE.out hb1
      have hsz : w.heap.size ≤ w1.heap.size := HB1.out.size
      have HCE : Hid (∀ j u, ((bitsB (bt s k).toNat 8).map Value.bool)[j]? = some u → w1.cell? ((⟨g, 0, none⟩ : Addr).add j) = some u) := by
        intro j u hu
        rw [List.getElem?_map] at hu
        obtain ⟨y, hy, rfl⟩ := Option.map_eq_some_iff.1 hu
        rw [Addr.add_lit, Nat.zero_add]
        exact hcel j y hy
      obtain ⟨bb, hbb⟩ : ∃ bb, bb = bitsB (bt s k).toNat 8 := ⟨_, rfl⟩
      rw [← hbb] at hbl HCE HD
      have HBL : Hid (bb.length = 8) := hbl
      clear hcel hv hb1 HOW HBE hbb hbl HBO
      go_wp2_with (at_builtin; (refine wpList_append_lies _ rfl _ _ 57 rfl w.heap.size 4 i0 _ 1 1 Try.underlying57 hi hz0 hz1 hz2 rfl (by omega) u5 acc.length (acc.map Value.bool) rfl HO.out ⟨g, 0, none⟩ 8 cap (bb.map Value.bool) rfl (by rw [List.length_map, HBL.out]) HCE.out (one_cells bb) (by omega) (by unfold maxLen; omega) (by omega) hsz w1.heap.size rfl ?_); intro g2 cap2 w2 hown2 hgrow hat hgl)
      go_wp2
      go_roundw
      case rel =>
        refine ⟨k + 1, acc ++ bb, by omega, by rw [List.length_append, HBL.out]; omega, by go_num, ?_, HB1.out.grown hgrow hsz HO.out.block, HD⟩
        have e : (acc ++ bb).length = 8 * k + 8 := by rw [List.length_append, HBL.out]; omega
        have h2 := hown2
        unfold Bls
        rw [List.map_append, e]
        rw [hl] at h2
        exact h2
      case measure => simp [intOf]; omega
    · obtain rfl : k = s.size := by omega
      have hacc : acc = bitsT (nums s) := by
        have h := HR.out
        rw [drop_end s s.size (Nat.le_refl _)] at h
        simpa [bitsT] using h
      have HAC : Hid (acc = bitsT (nums s)) := hacc
      have HOW : Hid (Bls wr w.heap.size u5 acc) := hown
      have HBE : Hid (Below w.heap.size w wr) := hbel
      have hsz := hbel.size
      clear HR hown hbel hacc hlt
      go_wp2_with (at_make; (refine wpList_make_full _ rfl _ _ 57 rfl w.heap.size 4 i0 (.bool false) 1 Try.underlying57 hi hz0 hz1 _ _ _ _ 16 rfl rfl (by omega) (by omega) (by rw [hz2]; omega) (by unfold maxLen; omega) hsz ?_); intro w1 hown1 hgrow1; have hm := BR.made hown1; have c0 := hm.cell 0 false rfl; have f0 := hm.free 0; have c1 := (hm.set 0 true).cell 13 false rfl; have f1 := (hm.set 0 true).free 13; have c2 := ((hm.set 0 true).set 13 true).cell 15 false rfl; have f2 := ((hm.set 0 true).set 13 true).free 15)
      have hp := poly16 _ _ _ (BR.made hown1)
      have hb1 : Below wr.heap.size wr w1 := (Below.refl _ _).grown hgrow1 (Nat.le_refl _) (fun k hk => by cases hk)
      clear hown1 hgrow1 hm c0 f0 c1 f1 c2 f2
      have hb2 : Below wr.heap.size wr (((w1.setCell ⟨wr.heap.size, 0, none⟩ (.bool true)).setCell ⟨wr.heap.size, 13, none⟩ (.bool true)).setCell ⟨wr.heap.size, 15, none⟩ (.bool true)) := ((hb1.setCell (Nat.le_refl _) _).setCell (Nat.le_refl _) _).setCell (Nat.le_refl _) _
      generalize (((w1.setCell ⟨wr.heap.size, 0, none⟩ (.bool true)).setCell ⟨wr.heap.size, 13, none⟩ (.bool true)).setCell ⟨wr.heap.size, 15, none⟩ (.bool true)) = w2 at hp hb2 ⊢
      have hx2 := bitsOf_any (65535 - x) 16 (by omega) (by decide) w2
      rw [show ((65535 - x : Nat) : Int) = 65535 - (x : Int) by omega] at hx2
      refine hx2.mono ?_
      rintro e w3 ⟨v2, rfl, hv2, hb3⟩
      have hb23 := bseq hb2 hb3
      have Q1 : Hid (Bls w3 0 u5 (bitsT (nums s))) := by
        have h := (HOW.out.below hb23).base (Nat.zero_le _)
        rw [HAC.out] at h; exact h
      have Q2 : Hid (Bls w3 0 v2 (bitsB (65535 - x) 16)) := hv2.base (Nat.zero_le _)
      have Q3 : Hid (Bls w3 0 (.slice (some ⟨wr.heap.size, 0, none⟩) 16 16) [true, false, false, false, false, false, false, false, false, false, false, false, false, true, false, true]) := (hp.bls.below hb3).base (Nat.zero_le _)
      have HB3 : Hid (Below w.heap.size w w3) := bseq HBE.out hb23
      clear hx2 hp hb1 hb2 hb3 hb23 hv2 HOW HBE HAC
      go_wp2_with fail
      refine (left_any u5 v2 _ _ _ _ _ Q1.out Q2.out Q3.out (by rw [bitsT_length, nums_length]; omega) (by decide) (by decide) (by rw [bitsB_length]; rfl)).mono ?_
      rintro e w4 ⟨g, off, cap, cs, rfl, hl, hc, hv, hb4⟩
      have HC : Hid (∀ j x, cs[j]? = some x → w4.cell? ⟨g, off + j, none⟩ = some (.bool x)) := hc
      have HL : Hid (cs.length ≤ 16) := by show _ ≤ _; rw [hl]; decide
      have hval : vb (cs.map (! ·)) = more x (nums s) := by
        have e1 : vb [true, false, false, false, false, false, false, false, false, false, false, false, false, true, false, true] = 40961 := by decide
        have e2 : (65535 - x) % 2 ^ 16 = x ^^^ 65535 := by rw [← turned16 x hx]; exact Nat.mod_eq_of_lt (by omega)
        have e3 : 2 ^ [true, false, false, false, false, false, false, false, false, false, false, false, false, true, false, true].length - 1 = 65535 := by decide
        rw [turned_of, hl, hv, vb_bitsB, ref_more x (nums s) (nums_byt s), e1, e2, e3]
      have HV : Hid (vb (cs.map (! ·)) = more x (nums s)) := hval
      have HF : Hid (more x (nums s) < 65536) := more_lt _ hx
      have HB4 : Hid (Below w.heap.size w w4) := bseq HB3.out hb4
      clear hval hc hv hl Q1 Q2 Q3 HB3 hb4
      go_wp2_with fail
      refine (turnedNum_any g off cap cs HL.out _ HC.out).mono ?_
      rw [HV.out]
      have hf := HF.out
      clear HV HC HF
      generalize he : more x (nums s) = f at hf ⊢
      have HE : Hid (more x (nums s) = f) := he
      clear he
      rintro e w5 ⟨rfl, rfl⟩
      go_wp2
      go_ret
      exact ⟨by rw [HE.out]; rfl, HB4.out⟩
end Go.Proofs.Ytepifjimfcnggaa.crc
