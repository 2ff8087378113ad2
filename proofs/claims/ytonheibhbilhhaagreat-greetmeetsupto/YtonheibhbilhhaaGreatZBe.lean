/- desc: a right device's text is read as that device. -/
import Derived.Test.YtonheibhbilhhaaGreatZBc
import Derived.Test.YtonheibhbilhhaaGreatZBb
import Derived.Test.YtonheibhbilhhaaGreatZAg
import Derived.Test.YtonheibhbilhhaaGreatZBd
import Derived.Deep.QuietTactic
import Derived.BigQuiet
namespace Go.Proofs.YtonheibhbilhhaaGreat.desc
open Go.RowKit Go.PlainAid Go.Proofs.YtonheibhbilhhaaGreat.lane
theorem devL_length (d : Dv) : (devL d).length = 18 := rfl
theorem devL_byt {d : Dv} (h : devOk d = true) : Byt (devL d) := by
 obtain ⟨h0, ⟨h1, h2, h3, h4, h5, h6, h7⟩, ⟨k1, k2, k3, k4⟩, _⟩ := (devOk_iff d).1 h
 intro x hx
 simp only [devL, wrd, List.cons_append, List.nil_append, List.mem_cons, List.not_mem_nil, or_false] at hx
 omega
end Go.Proofs.YtonheibhbilhhaaGreat.desc
namespace Go.Proofs.YtonheibhbilhhaaGreat.desc
open Go.RowKit Go.PlainAid Go.Proofs.YtonheibhbilhhaaGreat.lane
set_option linter.unusedVariables false
def isDevR (s : ByteArray) : Prop := s.size = 18 ∧ bt s 0 = 18 ∧ bt s 1 = 1 ∧ bt s 17 ≠ 0 ∧ (bt s 7 = 8 ∨ bt s 7 = 16 ∨ bt s 7 = 32 ∨ bt s 7 = 64)
theorem list18 (l : List Int) (h : l.length = 18) : l = [l.getD 0 0, l.getD 1 0, l.getD 2 0, l.getD 3 0, l.getD 4 0, l.getD 5 0, l.getD 6 0, l.getD 7 0, l.getD 8 0, l.getD 9 0, l.getD 10 0, l.getD 11 0, l.getD 12 0, l.getD 13 0, l.getD 14 0, l.getD 15 0, l.getD 16 0, l.getD 17 0] := by
 have : l = (List.range 18).map fun k => l.getD k 0 := by
  apply List.ext_getElem (by simp [h])
  intro i h1 h2
  simp [List.getD, h1]
 exact this
theorem wd_at (s : ByteArray) (k : Nat) (h : k + 1 < s.size) : wdOf (s.extract k s.size) = bt s k + 256 * bt s (k + 1) := by
 unfold wdOf
 rw [bt_extract _ k 0 (by omega), bt_extract _ k 1 (by omega), Nat.add_zero]
theorem isDev_R (s : ByteArray) (h : 18 ≤ s.size) : isDev s = true ↔ isDevR s := by
 unfold isDev isDevR
 rw [Bool.and_eq_true, decide_eq_true_eq]
 constructor
 ·rintro ⟨h1, h2⟩
  have h3 := (devOk_iff _).1 h1
  have g : ∀ k, k < 18 → bt s k = (devL (devO s)).getD k 0 := fun k hk => by
   have := getD_bt (devL (devO s)) (devL_byt h1) k (by rw [devL_length]; exact hk)
   rw [h2] at this
   exact this
  refine ⟨by rw [← h2, str_size, devL_length], g 0 (by omega), g 1 (by omega), h3.2.2.2, h3.1⟩
 ·rintro ⟨h1, h2, h3, h4, h5⟩
  have b : ∀ k, 0 ≤ bt s k ∧ bt s k ≤ 255 := fun k => ⟨bt_nonneg s k, bt_le s k⟩
  have w2 : wdOf (s.extract 2 s.size) = bt s 2 + 256 * bt s 3 := wd_at s 2 (by omega)
  have w8 : wdOf (s.extract 8 s.size) = bt s 8 + 256 * bt s 9 := wd_at s 8 (by omega)
  have w10 : wdOf (s.extract 10 s.size) = bt s 10 + 256 * bt s 11 := wd_at s 10 (by omega)
  have w12 : wdOf (s.extract 12 s.size) = bt s 12 + 256 * bt s 13 := wd_at s 12 (by omega)
  have b2 := b 2
  have b3 := b 3
  have b8 := b 8
  have b9 := b 9
  have b10 := b 10
  have b11 := b 11
  have b12 := b 12
  have b13 := b 13
  refine ⟨(devOk_iff _).2 ⟨h5, ⟨b 4, b 5, b 6, b 14, b 15, b 16, b 17⟩, ⟨?_, ?_, ?_, ?_⟩, h4⟩, ?_⟩
  ·show 0 ≤ wdOf _ ∧ wdOf _ ≤ _; rw [w2]; omega
  ·show 0 ≤ wdOf _ ∧ wdOf _ ≤ _; rw [w8]; omega
  ·show 0 ≤ wdOf _ ∧ wdOf _ ≤ _; rw [w10]; omega
  ·show 0 ≤ wdOf _ ∧ wdOf _ ≤ _; rw [w12]; omega
  ·have e := list18 (nums s) (by rw [nums_length]; exact h1)
   have b' : ∀ k, k < 18 → (nums s).getD k 0 = bt s k := fun k hk => (bt_nums s k (by omega)).symm
   rw [b' 0 (by omega), b' 1 (by omega), b' 2 (by omega), b' 3 (by omega), b' 4 (by omega), b' 5 (by omega), b' 6 (by omega), b' 7 (by omega), b' 8 (by omega), b' 9 (by omega), b' 10 (by omega), b' 11 (by omega), b' 12 (by omega), b' 13 (by omega), b' 14 (by omega), b' 15 (by omega), b' 16 (by omega), b' 17 (by omega)] at e
   have : devL (devO s) = nums s := by
    rw [e]
    show [18, 1] ++ wrd (wdOf _) ++ [bt s 4, bt s 5, bt s 6, bt s 7] ++ wrd (wdOf _) ++ wrd (wdOf _) ++ wrd (wdOf _) ++ [bt s 14, bt s 15, bt s 16, bt s 17] = _
    rw [w2, w8, w10, w12, h2, h3]
    simp only [wrd, List.cons_append, List.nil_append]
    rw [show (bt s 2 + 256 * bt s 3) % 256 = bt s 2 by omega, show (bt s 2 + 256 * bt s 3) / 256 = bt s 3 by omega, show (bt s 8 + 256 * bt s 9) % 256 = bt s 8 by omega, show (bt s 8 + 256 * bt s 9) / 256 = bt s 9 by omega,
     show (bt s 10 + 256 * bt s 11) % 256 = bt s 10 by omega, show (bt s 10 + 256 * bt s 11) / 256 = bt s 11 by omega, show (bt s 12 + 256 * bt s 13) % 256 = bt s 12 by omega, show (bt s 12 + 256 * bt s 13) / 256 = bt s 13 by omega]
   rw [this, str_nums]
end Go.Proofs.YtonheibhbilhhaaGreat.desc
namespace Go.Proofs.YtonheibhbilhhaaGreat.desc
open Go.RowKit Go.PlainAid Go.Proofs.YtonheibhbilhhaaGreat.lane
set_option linter.unusedVariables false
set_option linter.unusedSimpArgs false
theorem two_conv (x y : Int) (w : World) : (convert 99 9 (.slice (some ⟨w.heap.size, 0, none⟩) 2 2)).run Tryz.prog (w.alloc (.cells #[.int .u8 x, .int .u8 y] 5)) = .ok (.string (strOfNums [x, y])) (w.alloc (.cells #[.int .u8 x, .int .u8 y] 5)) := by
 refine run_convert_bytes_arg _ 99 5 Tryz.underlying99 Tryz.underlying5 w.heap.size 0 2 2 [x, y] rfl ?_ 9 Tryz.underlying9
 intro i hi
 match i, hi with
 | 0, _ => simp
 | 1, _ => simp
theorem twoBytes_any (n : Int) (h0 : 0 ≤ n) (h1 : n ≤ 65535) (w : World) :
  Calls Tryz.prog 69 #[.int .i64 n] w fun e w' => e = .returned (.string (strOfNums (wrd n))) ∧ Below w.heap.size w w' := by
 have hc := two_conv (n % 256) (n / 256) w
 have he : n / 256 % 256 = n / 256 := by omega
 unfold wrd
 go_enter Tryz.func69, Tryz.ntmps69
 go_wp2
 go_ret
 exact ⟨rfl, (Below.refl _ _).alloc (Nat.le_refl _) _⟩
set_option maxHeartbeats 1000000 in
theorem index_any (v : Value) (us : List Int) (x : Int) (w : World) (h : Rig w v us) :
  Calls Tryz.prog 101 #[v, .int .i64 x] w fun e w' => ∃ r : Int, e = .returned (.int .i64 r) ∧ (0 ≤ r ↔ x ∈ us) ∧ w = w' := by
 obtain ⟨a, c, rfl, hlc, hcm, hc⟩ := h.cell
 have HC : Hid (∀ j x, us[j]? = some x → ∃ g off, a = some ⟨g, off, none⟩ ∧ g < w.heap.size ∧ w.cell? ⟨g, off + j, none⟩ = some (.int .i64 x)) := hc
 unfold maxLen at hcm
 obtain ⟨n, hn⟩ : ∃ n, us.length = n := ⟨_, rfl⟩
 have HN : Hid (us.length = n) := hn
 rw [hn] at hlc
 rw [hn]
 clear h hc hn
 go_enter Tryz.func101, Tryz.ntmps101
 go_wp2
 go_loop [8] (fun i => ∃ k : Nat, k ≤ n ∧ i = .int .i64 (k : Int) ∧ Hid ((us.drop k).contains x = us.contains x)) (fun i => n - (intOf i).toNat)
 case atStart => exact ⟨0, Nat.zero_le _, rfl, rfl⟩
 case round =>
  obtain ⟨k, hk, rfl, HR⟩ := hrel
  by_cases hlt : k < n
  ·have hk1 : k < us.length := by have := HN.out; omega
   obtain ⟨g, off, rfl, hg, c1⟩ := HC.out k us[k] (List.getElem?_eq_getElem hk1)
   have hR := HR.out
   rw [List.drop_eq_getElem_cons hk1, List.contains_cons] at hR
   generalize us[k] = y at c1 hR
   clear HC HN HR
   by_cases hxy : x = y
   ·have e1 : (x == y) = true := by simpa using hxy
    have HH : Hid (decide (0 ≤ (k : Int)) = us.contains x) := by
     show _ = _
     rw [← hR, e1, Bool.true_or, decide_eq_true_eq]; omega
    clear hR hxy
    go_wp2
    go_ret
    exact ⟨_, rfl, by have := HH.out; simpa using this, rfl⟩
   ·have e1 : (x == y) = false := by simpa using hxy
    have HH : Hid ((us.drop (k + 1)).contains x = us.contains x) := by
     show _ = _
     rw [← hR, e1, Bool.false_or]
    clear hR hxy
    go_wp2
    go_round
    case rel => exact ⟨k + 1, by omega, by go_num, HH.out⟩
    case measure => simp [intOf]; omega
  ·have hR := HR.out
   rw [List.drop_eq_nil_of_le (by have := HN.out; omega)] at hR
   have HH : Hid (decide ((0 : Int) ≤ -1) = us.contains x) := hR
   clear HC HN HR hR
   go_wp2
   go_ret
   exact ⟨_, rfl, by have := HH.out; simpa using this, rfl⟩
theorem contains_any (v : Value) (us : List Int) (x : Int) (w : World) (h : Rig w v us) :
  Calls Tryz.prog 68 #[v, .int .i64 x] w fun e w' => e = .returned (.bool (us.contains x)) ∧ w = w' := by
 have HI : Hid (Calls Tryz.prog 101 #[v, .int .i64 x] w fun e w' => ∃ r : Int, e = .returned (.int .i64 r) ∧ (0 ≤ r ↔ x ∈ us) ∧ w = w') := index_any v us x w h
 obtain ⟨a, c, rfl, _⟩ := h.cell
 go_enter Tryz.func68, Tryz.ntmps68
 go_wp2_with fail
 refine HI.out.mono ?_
 rintro e wa ⟨r, rfl, hr, rfl⟩
 have HR : Hid (decide (0 ≤ r) = us.contains x) := by show _ = _; rw [Bool.eq_iff_iff]; simpa using hr
 clear hr
 go_wp2
 go_ret
 exact ⟨ret_bool HR.out, rfl⟩
theorem has_m0 (x : Int) : [8, 16, 32, 64].contains x = m0B x := by
 simp only [m0B, List.contains_cons, List.contains_nil, Bool.or_false]
theorem devOk_R (d : Dv) : devOk d = (allB 65535 [d.us, d.ve, d.pd, d.re] && (allB 255 [d.cl, d.su, d.pr, d.m0] && (allB 255 [d.ma, d.nm, d.se, d.cf] && (!decide (d.cf < 1) && m0B d.m0)))) := by
 rw [Bool.eq_iff_iff, devOk_iff]
 simp [allB, inB, m0B]
 omega
theorem dev_text (us cl su pr m0 ve pd re ma nm se cf : Int) : (⟨#[18, 1]⟩ : ByteArray) ++ strOfNums (wrd us) ++ strOfNums [cl, su, pr, m0] ++ strOfNums (wrd ve) ++ strOfNums (wrd pd) ++ strOfNums (wrd re) ++ strOfNums [ma, nm, se, cf] = strOfNums (devL ⟨us, cl, su, pr, m0, ve, pd, re, ma, nm, se, cf⟩) := by
 have e : (⟨#[18, 1]⟩ : ByteArray) = strOfNums [18, 1] := rfl
 rw [e, ← str_append, ← str_append, ← str_append, ← str_append, ← str_append, ← str_append]
 rfl
set_option maxRecDepth 100000 in
set_option maxHeartbeats 8000000 in
theorem deviceText_any (d : Dv) (w : World) : Calls Tryz.prog 32 #[dvV d] w fun e w' => e = .returned (.tuple #[.string (wdT d), .int .i64 (wdC d)]) ∧ Below w.heap.size w w' := by
 have HBt : Hid (∀ (x : Int) (w : World), Calls Tryz.prog 13 #[.int .i64 x, .int .i64 0, .int .i64 65535] w fun e w' => e = .returned (.bool (inB 65535 x)) ∧ w = w') := fun x w => between_any x 0 65535 w
 have HOK : Hid (devOk d = (allB 65535 [d.us, d.ve, d.pd, d.re] && (allB 255 [d.cl, d.su, d.pr, d.m0] && (allB 255 [d.ma, d.nm, d.se, d.cf] && (!decide (d.cf < 1) && m0B d.m0))))) := devOk_R d
 have HNO : Hid (devOk d = false → wdT d = ⟨#[]⟩ ∧ wdC d = 1) := fun h => by unfold wdT wdC; rw [h]; exact ⟨rfl, rfl⟩
 have HYES : Hid (devOk d = true → wdT d = strOfNums (devL d) ∧ wdC d = 0) := fun h => by unfold wdT wdC; rw [h]; exact ⟨rfl, rfl⟩
 obtain ⟨WT, hWT⟩ : ∃ t, wdT d = t := ⟨_, rfl⟩
 obtain ⟨WC, hWC⟩ : ∃ t, wdC d = t := ⟨_, rfl⟩
 obtain ⟨OKd, hOKd⟩ : ∃ t, devOk d = t := ⟨_, rfl⟩
 rw [hWT, hWC, hOKd] at HNO HYES
 rw [hOKd] at HOK
 rw [hWT, hWC]
 clear hWT hWC hOKd
 obtain ⟨wa, hwa⟩ : ∃ wa, w.alloc (dvO d) = wa := ⟨_, rfl⟩
 have hba : Below w.heap.size w wa := by rw [← hwa]; exact balloc _ _
 have hAa : wa.heap[w.heap.size]? = some (dvO d) := by rw [← hwa]; exact (MapKept.heap_alloc w _).1
 obtain ⟨us, cl, su, pr, m0, ve, pd, re, ma, nm, se, cf⟩ := d
 simp only at *
 obtain ⟨wb, hwb⟩ : ∃ wb, wa.alloc (.cells #[.int .i64 us, .int .i64 ve, .int .i64 pd, .int .i64 re] 3) = wb := ⟨_, rfl⟩
 have hbb : Below wa.heap.size wa wb := by rw [← hwb]; exact balloc _ _
 have HB : Hid (Below w.heap.size w wb) := bsq hba hbb
 have HX : Hid (∀ u, Below wb.heap.size wb u → DvC u w.heap.size ⟨us, cl, su, pr, m0, ve, pd, re, ma, nm, se, cf⟩) := fun u hu => (box12 (d := ⟨us, cl, su, pr, m0, ve, pd, re, ma, nm, se, cf⟩) (res_below (res_below hAa hbb) hu)).1
 have HR : Hid (Rig wb (.slice (some ⟨wa.heap.size, 0, none⟩) 4 4) [us, ve, pd, re]) := by
  show Rig _ _ _
  rw [← hwb]
  exact Rig.new wa [us, ve, pd, re] 3 (by simp [maxLen])
 obtain ⟨hzD, c0, c1, c2, c3, c4, c5, c6, c7, c8, c9, c10, c11⟩ := (box12 (d := ⟨us, cl, su, pr, m0, ve, pd, re, ma, nm, se, cf⟩) hAa).1
 simp only at c0 c1 c2 c3 c4 c5 c6 c7 c8 c9 c10 c11
 clear hba hbb hAa
 go_enter Tryz.func32, Tryz.ntmps32
 go_wp2
 clear c0 c1 c2 c3 c4 c5 c6 c7 c8 c9 c10 c11 hzD
 go_loop [20] (fun i => ∃ k : Nat, k ≤ 4 ∧ i = .int .i64 (k : Int) ∧ Hid (allB 65535 ([us, ve, pd, re].drop k) = allB 65535 [us, ve, pd, re])) (fun i => 4 - (intOf i).toNat)
 case atStart => exact ⟨0, Nat.zero_le _, rfl, rfl⟩
 case round =>
  obtain ⟨k, hk, rfl, HL⟩ := hrel
  by_cases hlt : k < 4
  ·have hk1 : k < [us, ve, pd, re].length := by simpa using hlt
   obtain ⟨x, hx⟩ : ∃ x, [us, ve, pd, re][k]? = some x := ⟨_, List.getElem?_eq_getElem hk1⟩
   obtain ⟨a', c', e1, _, _, hcell⟩ := HR.out.cell
   obtain ⟨g, off, e2, hg, c1⟩ := hcell k x hx
   injection e1 with e1 _ _
   rw [← e1] at e2
   injection e2 with e2
   injection e2 with e3 e4
   subst e3 e4
   rw [Nat.zero_add] at c1
   have hL := HL.out
   rw [List.drop_eq_getElem_cons hk1, allB_cons, show [us, ve, pd, re][k] = x by rw [List.getElem?_eq_getElem hk1] at hx; injection hx] at hL
   have HB1 : Hid (Calls Tryz.prog 13 #[.int .i64 x, .int .i64 0, .int .i64 65535] wb fun e w' => e = .returned (.bool (inB 65535 x)) ∧ wb = w') := HBt.out x wb
   clear e1 hcell hx hk1 HL
   cases hin : inB 65535 x
   ·rw [hin] at HB1 hL
    have HF : Hid (WT = ⟨#[]⟩ ∧ WC = 1) := HNO.out (by rw [HOK.out, ← hL]; simp)
    clear hin hL
    go_wp2_with fail
    refine HB1.out.mono ?_
    rintro e w2 ⟨rfl, rfl⟩
    go_wp2
    go_ret2
    rw [HF.out.1, HF.out.2]
    exact ⟨rfl, HB.out⟩
   ·rw [hin] at HB1 hL
    have HH : Hid (allB 65535 ([us, ve, pd, re].drop (k + 1)) = allB 65535 [us, ve, pd, re]) := by rw [Bool.true_and] at hL; exact hL
    clear hin hL
    go_wp2_with fail
    refine HB1.out.mono ?_
    rintro e w2 ⟨rfl, rfl⟩
    go_wp2
    go_round
    case rel => exact ⟨k + 1, by omega, by go_num, HH.out⟩
    case measure => simp [intOf]; omega
  ·have hk4 : k = 4 := by omega
   subst hk4
   have HW : Hid (true = allB 65535 [us, ve, pd, re]) := HL.out
   have HWR : Hid ((0 ≤ us ∧ us ≤ 65535) ∧ (0 ≤ ve ∧ ve ≤ 65535) ∧ (0 ≤ pd ∧ pd ≤ 65535) ∧ (0 ≤ re ∧ re ≤ 65535)) := by
    have := HW.out.symm
    simp only [allB, inB, List.all_cons, List.all_nil, Bool.and_true, Bool.and_eq_true, decide_eq_true_eq] at this
    exact ⟨this.1, this.2.1, this.2.2.1, this.2.2.2⟩
   clear HL hlt hk HR HBt
   obtain ⟨hzD, c0, c1, c2, c3, c4, c5, c6, c7, c8, c9, c10, c11⟩ := HX.out wb (Below.refl _ _)
   simp only at c0 c1 c2 c3 c4 c5 c6 c7 c8 c9 c10 c11
   obtain ⟨wc, hwc⟩ : ∃ wc, wb.alloc (.cells #[.int .i64 cl, .int .i64 su, .int .i64 pr, .int .i64 m0] 3) = wc := ⟨_, rfl⟩
   have hbc : Below wb.heap.size wb wc := by rw [← hwc]; exact balloc _ _
   have HO1 : Hid (Calls Tryz.prog 41 #[.slice (some ⟨wb.heap.size, 0, none⟩) 4 4] wc fun e w' => e = .returned (.tuple #[.string (bof [cl, su, pr, m0]), .bool (allB 255 [cl, su, pr, m0])]) ∧ Below wc.heap.size wc w') := by
    rw [← hwc]
    exact bytesOf_any _ [cl, su, pr, m0] _ (Rig.new wb [cl, su, pr, m0] 3 (by simp [maxLen])) (by simp)
   have HBc : Hid (Below wb.heap.size wb wc) := hbc
   have HA : Hid (allB 255 [cl, su, pr, m0] = true → bof [cl, su, pr, m0] = strOfNums [cl, su, pr, m0]) := fun h => by unfold bof; rw [if_pos h]
   have HA2 : Hid (allB 255 [ma, nm, se, cf] = true → bof [ma, nm, se, cf] = strOfNums [ma, nm, se, cf]) := fun h => by unfold bof; rw [if_pos h]
   have HO2 : Hid (∀ u : World, Calls Tryz.prog 41 #[.slice (some ⟨u.heap.size, 0, none⟩) 4 4] (u.alloc (.cells #[.int .i64 ma, .int .i64 nm, .int .i64 se, .int .i64 cf] 3)) fun e w' => e = .returned (.tuple #[.string (bof [ma, nm, se, cf]), .bool (allB 255 [ma, nm, se, cf])]) ∧ Below (u.heap.size + 1) (u.alloc (.cells #[.int .i64 ma, .int .i64 nm, .int .i64 se, .int .i64 cf] 3)) w') := fun u => by
    have := bytesOf_any _ [ma, nm, se, cf] _ (Rig.new u [ma, nm, se, cf] 3 (by simp [maxLen])) (by simp)
    simpa using this
   generalize allB 255 [cl, su, pr, m0] = ok1 at *
   generalize allB 255 [ma, nm, se, cf] = ok2 at *
   generalize bof [cl, su, pr, m0] = A at *
   generalize bof [ma, nm, se, cf] = B at *
   clear hbc
   go_wp2_with fail
   refine HO1.out.mono ?_
   rintro e wd ⟨rfl, hbd⟩
   have HBd : Hid (Below wb.heap.size wb wd) := bsq HBc.out hbd
   clear hbd HBc HO1 hwc c0 c1 c2 c3 c4 c5 c6 c7 c8 c9 c10 c11 hzD
   obtain ⟨hzD, c0, c1, c2, c3, c4, c5, c6, c7, c8, c9, c10, c11⟩ := HX.out wd HBd.out
   simp only at c0 c1 c2 c3 c4 c5 c6 c7 c8 c9 c10 c11
   go_wp2_with fail
   refine (HO2.out _).mono ?_
   rintro e we ⟨rfl, hbe⟩
   have HBe : Hid (Below wb.heap.size wb we) := (HBd.out.trans ((balloc wd _).mono HBd.out.size)).trans (hbe.mono (by have := HBd.out.size; omega))
   clear hbe c0 c1 c2 c3 c4 c5 c6 c7 c8 c9 c10 c11 hzD HO2
   obtain ⟨hzD, c0, c1, c2, c3, c4, c5, c6, c7, c8, c9, c10, c11⟩ := HX.out we HBe.out
   simp only at c0 c1 c2 c3 c4 c5 c6 c7 c8 c9 c10 c11
   cases ok1
   ·have HF : Hid (WT = ⟨#[]⟩ ∧ WC = 1) := HNO.out (by rw [HOK.out]; simp)
    go_wp2
    go_ret2
    rw [HF.out.1, HF.out.2]
    exact ⟨rfl, bsq HB.out HBe.out⟩
   cases ok2
   ·have HF : Hid (WT = ⟨#[]⟩ ∧ WC = 1) := HNO.out (by rw [HOK.out]; simp)
    go_wp2
    go_ret2
    rw [HF.out.1, HF.out.2]
    exact ⟨rfl, bsq HB.out HBe.out⟩
   by_cases hcf : cf < 1
   ·have HF : Hid (WT = ⟨#[]⟩ ∧ WC = 1) := HNO.out (by rw [HOK.out, decide_eq_true hcf]; simp)
    go_wp2
    go_ret2
    rw [HF.out.1, HF.out.2]
    exact ⟨rfl, bsq HB.out HBe.out⟩
   obtain ⟨wf, hwf⟩ : ∃ wf, we.alloc (.cells #[.int .i64 8, .int .i64 16, .int .i64 32, .int .i64 64] 3) = wf := ⟨_, rfl⟩
   have hbf : Below we.heap.size we wf := by rw [← hwf]; exact balloc _ _
   have HCN : Hid (Calls Tryz.prog 68 #[.slice (some ⟨we.heap.size, 0, none⟩) 4 4, .int .i64 m0] wf fun e w' => e = .returned (.bool (m0B m0)) ∧ wf = w') := by
    have := contains_any _ [8, 16, 32, 64] m0 _ (Rig.new we [8, 16, 32, 64] 3 (by simp [maxLen]))
    rw [has_m0] at this
    rw [← hwf]
    exact this
   have HBf : Hid (Below wb.heap.size wb wf) := bsq HBe.out hbf
   have hmB : wf.cell? ⟨w.heap.size, 4, none⟩ = some (.int .i64 m0) := (HX.out wf HBf.out).c4
   have HM : Hid (OKd = m0B m0) := by show _ = _; rw [HOK.out, ← HW.out, decide_eq_false hcf]; simp
   generalize m0B m0 = mb at *
   clear hbf
   cases mb
   ·have HF : Hid (WT = ⟨#[]⟩ ∧ WC = 1) := HNO.out HM.out
    clear HM
    go_wp2_with fail
    refine HCN.out.mono ?_
    rintro e w2 ⟨rfl, rfl⟩
    go_wp2
    go_ret2
    rw [HF.out.1, HF.out.2]
    exact ⟨rfl, bsq HB.out HBf.out⟩
   have HF : Hid (WT = strOfNums (devL ⟨us, cl, su, pr, m0, ve, pd, re, ma, nm, se, cf⟩) ∧ WC = 0) := HYES.out HM.out
   clear HM
   go_wp2_with fail
   refine HCN.out.mono ?_
   rintro e w2 ⟨rfl, rfl⟩
   clear c0 c1 c2 c3 c4 c5 c6 c7 c8 c9 c10 c11 hzD hmB
   have x0 : ∀ W : World, Below wf.heap.size wf W → W.cell? ⟨w.heap.size, 0, none⟩ = some (.int .i64 us) := fun W hW => (HX.out W (bsq HBf.out hW)).c0
   have x5 : ∀ W : World, Below wf.heap.size wf W → W.cell? ⟨w.heap.size, 5, none⟩ = some (.int .i64 ve) := fun W hW => (HX.out W (bsq HBf.out hW)).c5
   have x6 : ∀ W : World, Below wf.heap.size wf W → W.cell? ⟨w.heap.size, 6, none⟩ = some (.int .i64 pd) := fun W hW => (HX.out W (bsq HBf.out hW)).c6
   have x7 : ∀ W : World, Below wf.heap.size wf W → W.cell? ⟨w.heap.size, 7, none⟩ = some (.int .i64 re) := fun W hW => (HX.out W (bsq HBf.out hW)).c7
   obtain ⟨⟨u1, u2⟩, ⟨v1, v2⟩, ⟨p1, p2⟩, ⟨r1, r2⟩⟩ := HWR.out
   have HTus : Hid (∀ w : World, Calls Tryz.prog 69 #[.int .i64 us] w fun e w' => e = .returned (.string (strOfNums (wrd us))) ∧ Below w.heap.size w w') := fun w => twoBytes_any us u1 u2 w
   have HTve : Hid (∀ w : World, Calls Tryz.prog 69 #[.int .i64 ve] w fun e w' => e = .returned (.string (strOfNums (wrd ve))) ∧ Below w.heap.size w w') := fun w => twoBytes_any ve v1 v2 w
   have HTpd : Hid (∀ w : World, Calls Tryz.prog 69 #[.int .i64 pd] w fun e w' => e = .returned (.string (strOfNums (wrd pd))) ∧ Below w.heap.size w w') := fun w => twoBytes_any pd p1 p2 w
   have HTre : Hid (∀ w : World, Calls Tryz.prog 69 #[.int .i64 re] w fun e w' => e = .returned (.string (strOfNums (wrd re))) ∧ Below w.heap.size w w') := fun w => twoBytes_any re r1 r2 w
   have hA := HA.out trivial
   have hA2 := HA2.out trivial
   subst hA hA2
   have HDT : Hid _ := dev_text us cl su pr m0 ve pd re ma nm se cf
   have s1 : (strOfNums (wrd us)).size = 2 := str_size _
   have s2 : (strOfNums (wrd ve)).size = 2 := str_size _
   have s3 : (strOfNums (wrd pd)).size = 2 := str_size _
   have s4 : (strOfNums (wrd re)).size = 2 := str_size _
   have s5 : (strOfNums [cl, su, pr, m0]).size = 4 := str_size _
   have s6 : (strOfNums [ma, nm, se, cf]).size = 4 := str_size _
   generalize strOfNums (wrd us) = Tus at *
   generalize strOfNums (wrd ve) = Tve at *
   generalize strOfNums (wrd pd) = Tpd at *
   generalize strOfNums (wrd re) = Tre at *
   generalize strOfNums [cl, su, pr, m0] = A at *
   generalize strOfNums [ma, nm, se, cf] = B at *
   generalize strOfNums (devL ⟨us, cl, su, pr, m0, ve, pd, re, ma, nm, se, cf⟩) = DL at *
   clear u1 u2 v1 v2 p1 p2 r1 r2 HA HA2 HX HOK HNO HYES HW HWR
   go_wp2_with fail
   refine wp_abs (fun a0 => a0.tmps.size = 92 ∧ (∀ h, a0.tmps[1]'h = .pointer (some ⟨w.heap.size, 0, none⟩)) ∧ (∀ h, a0.tmps[6]'h = .string A) ∧ (∀ h, a0.tmps[8]'h = .string B)) ⟨rfl, fun _ => rfl, fun _ => rfl, fun _ => rfl⟩ ?_
   rintro a0 ⟨hsz, g1, g6, g8⟩ ha0
   refine wp_region_L (Cb wf) (by kernel_rfl) (by kernel_rfl) ((Below.refl _ _).drew) ?_
   refine lexb_plain (.pointer (some ⟨w.heap.size, 0, none⟩)) rfl (fun W hW => by simp [execOp, go_sem, hsz, g1, g6, g8]) ?_
   refine lexb_plain (.int .i64 us) rfl (fun W hW => by simp [execOp, go_sem, hsz, g1, g6, g8, x0 W hW]) ?_
   refine lexb_call (.string Tus) 69 #[.int .i64 us] rfl (fun W hW => by simp [execOp, go_sem, hsz, g1, g6, g8]) (fun W hW => HTus.out W) ?_
   refine lexb_plain (.string (⟨#[18, 1]⟩ ++ Tus)) rfl (fun W hW => by simp [execOp, go_sem, hsz, g1, g6, g8]; omega) ?_
   refine lexb_plain (.string A) rfl (fun W hW => by simp [execOp, go_sem, hsz, g1, g6, g8]) ?_
   refine lexb_plain (.string ((⟨#[18, 1]⟩ ++ Tus) ++ A)) rfl (fun W hW => by simp [execOp, go_sem, hsz, g1, g6, g8]; omega) ?_
   refine lexb_plain (.pointer (some ⟨w.heap.size, 5, none⟩)) rfl (fun W hW => by simp [execOp, go_sem, hsz, g1, g6, g8]) ?_
   refine lexb_plain (.int .i64 ve) rfl (fun W hW => by simp [execOp, go_sem, hsz, g1, g6, g8, x5 W hW]) ?_
   refine lexb_call (.string Tve) 69 #[.int .i64 ve] rfl (fun W hW => by simp [execOp, go_sem, hsz, g1, g6, g8]) (fun W hW => HTve.out W) ?_
   refine lexb_plain (.string (((⟨#[18, 1]⟩ ++ Tus) ++ A) ++ Tve)) rfl (fun W hW => by simp [execOp, go_sem, hsz, g1, g6, g8]; omega) ?_
   refine lexb_plain (.pointer (some ⟨w.heap.size, 6, none⟩)) rfl (fun W hW => by simp [execOp, go_sem, hsz, g1, g6, g8]) ?_
   refine lexb_plain (.int .i64 pd) rfl (fun W hW => by simp [execOp, go_sem, hsz, g1, g6, g8, x6 W hW]) ?_
   refine lexb_call (.string Tpd) 69 #[.int .i64 pd] rfl (fun W hW => by simp [execOp, go_sem, hsz, g1, g6, g8]) (fun W hW => HTpd.out W) ?_
   refine lexb_plain (.string ((((⟨#[18, 1]⟩ ++ Tus) ++ A) ++ Tve) ++ Tpd)) rfl (fun W hW => by simp [execOp, go_sem, hsz, g1, g6, g8]; omega) ?_
   refine lexb_plain (.pointer (some ⟨w.heap.size, 7, none⟩)) rfl (fun W hW => by simp [execOp, go_sem, hsz, g1, g6, g8]) ?_
   refine lexb_plain (.int .i64 re) rfl (fun W hW => by simp [execOp, go_sem, hsz, g1, g6, g8, x7 W hW]) ?_
   refine lexb_call (.string Tre) 69 #[.int .i64 re] rfl (fun W hW => by simp [execOp, go_sem, hsz, g1, g6, g8]) (fun W hW => HTre.out W) ?_
   refine lexb_plain (.string (((((⟨#[18, 1]⟩ ++ Tus) ++ A) ++ Tve) ++ Tpd) ++ Tre)) rfl (fun W hW => by simp [execOp, go_sem, hsz, g1, g6, g8]; omega) ?_
   refine lexb_plain (.string B) rfl (fun W hW => by simp [execOp, go_sem, hsz, g1, g6, g8]) ?_
   refine lexb_plain (.string ((((((⟨#[18, 1]⟩ ++ Tus) ++ A) ++ Tve) ++ Tpd) ++ Tre) ++ B)) rfl (fun W hW => by simp [execOp, go_sem, hsz, g1, g6, g8]; omega) ?_
   refine lexb_plain (.string ((((((⟨#[18, 1]⟩ ++ Tus) ++ A) ++ Tve) ++ Tpd) ++ Tre) ++ B)) rfl (fun W hW => by simp [execOp, go_sem, hsz, g1, g6, g8]) ?_
   refine lexb_plain (.int .i64 0) rfl (fun W hW => by simp [execOp, go_sem, hsz, g1, g6, g8]) ?_
   intro w' hw'
   have HBw : Hid (Below wf.heap.size wf w') := hw'
   clear hw' x0 x5 x6 x7 HTus HTve HTpd HTre
   subst ha0
   clear hsz g1 g6 g8
   go_simp
   go_wp2
   go_ret2
   rw [HF.out.1, HF.out.2, ← HDT.out]
   exact ⟨rfl, bsq HB.out (bsq HBf.out HBw.out)⟩
end Go.Proofs.YtonheibhbilhhaaGreat.desc
