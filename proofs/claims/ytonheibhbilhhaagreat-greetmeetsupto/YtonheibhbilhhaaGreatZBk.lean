/- plugref's gadget: what Described and haltBit answer. -/
import Derived.Test.YtonheibhbilhhaaGreatZBj
import Derived.Test.YtonheibhbilhhaaGreatZBh
import Derived.Test.YtonheibhbilhhaaGreatZAm
namespace Go.Proofs.YtonheibhbilhhaaGreat.gadget
open Go.RowKit Go.PlainAid Go.Proofs.YtonheibhbilhhaaGreat.lane Go.Proofs.YtonheibhbilhhaaGreat.desc
open Go.Proofs.YtonheibhbilhhaaGreat.utf (werr)
open Go.Proofs.YtonheibhbilhhaaGreat.setup (inS inS_iff)
set_option linter.unusedVariables false
set_option linter.unusedSimpArgs false
theorem dsc_256 (d : Dv) (c : Cf) (T : List (List Int)) : desO d c T 256 = some (wdT d) := by unfold desO; rw [if_pos rfl]
theorem dsc_512 (d : Dv) (c : Cf) (T : List (List Int)) : desO d c T 512 = some (wcT c) := by unfold desO; rw [if_neg (by omega), if_pos rfl]
theorem dsc_768 (d : Dv) (c : Cf) (T : List (List Int)) : desO d c T 768 = some (strOfNums [4, 3, 9, 4]) := by unfold desO; rw [if_neg (by omega), if_neg (by omega), if_pos rfl]
theorem dsc_text (d : Dv) (c : Cf) (T : List (List Int)) (k : Nat) (t : List Int) (h : T[k]? = some t) : desO d c T (769 + (k : Int)) = some (dtxt (strOfNums t)) := by
 have hk := (List.getElem?_eq_some_iff.1 h).1
 unfold desO
 rw [if_neg (by omega), if_neg (by omega), if_neg (by omega), if_pos (by omega), show (769 + (k : Int) - 769).toNat = k by omega]
 simp [List.getD, h]
theorem dsc_none (d : Dv) (c : Cf) (T : List (List Int)) (v : Int) (h1 : v ≠ 256) (h2 : v ≠ 512) (h3 : v < 768 ∨ 768 + (T.length : Int) < v) : desO d c T v = none := by
 unfold desO
 rw [if_neg h1, if_neg h2, if_neg (by omega), if_neg (by omega)]
def dscT (o : Option ByteArray) : ByteArray := o.getD noT
set_option maxRecDepth 100000 in
set_option maxHeartbeats 8000000 in
theorem described_any (d : Dv) (c : Cf) (L : FL) (v : Value) (T : List (List Int)) (tv : Value) (x : Int) (w : World) (h : Shr w c L v T tv) (h0 : 0 ≤ x) (h1 : x ≤ 65535) (hT8 : T.length ≤ 8) (hbig : ∀ t ∈ T, t.length ≤ 17000000000000) :
  Calls Tryz.prog 40 #[shV d c v tv, .int .i64 x] w fun e w' => e = .returned (.tuple #[.string (dscT (desO d c T x)), .bool (desO d c T x).isSome]) ∧ Below w.heap.size w w' := by
 obtain ⟨w0, hw0, hS, hb0⟩ := ShC.named w d c v tv
 have HD : Hid (∀ u : World, Calls Tryz.prog 32 #[dvV d] u fun e w' => e = .returned (.tuple #[.string (wdT d), .int .i64 (wdC d)]) ∧ Below u.heap.size u w') := deviceText_any d
 have HC : Hid (Calls Tryz.prog 33 #[cfV c v] w0 fun e w' => e = .returned (.tuple #[.string (wcT c), .int .i64 (chkC c)]) ∧ Below w0.heap.size w0 w') := configText_any c v L w0 (h.rc.below hb0)
 have hR0 : Rts w0 tv T := h.tx.below hb0
 obtain ⟨fa, fn, fcp, rfl⟩ : ∃ a n c, v = .slice a n c := by obtain ⟨a, c, h, _⟩ := h.rc.fs.row; exact ⟨_, _, _, h⟩
 obtain ⟨a, n, cap, rfl⟩ : ∃ a n c, tv = .slice a n c := by obtain ⟨a, c, h, _⟩ := h.tx; exact ⟨_, _, _, h⟩
 obtain ⟨hn, hnc, hcm⟩ : n = T.length ∧ n ≤ cap ∧ cap ≤ maxLen := by obtain ⟨a', c', e, h1, h2, _⟩ := h.tx; injection e with e1 e2 e3; subst e2 e3; exact ⟨rfl, h1, h2⟩
 have HN : Hid (n = T.length) := hn
 have hn8 : n ≤ 8 := by omega
 have HBt : Hid (∀ u : World, Calls Tryz.prog 13 #[.int .i64 x, .int .i64 769, .int .i64 (768 + (n : Int))] u fun e w' => e = .returned (.bool (decide (769 ≤ x) && decide (x ≤ 768 + (n : Int)))) ∧ u = w') := fun u => between_any x 769 (768 + (n : Int)) u
 have HB0 : Hid (Below w.heap.size w w0) := hb0
 have HAT := Rts.at' hR0
 obtain ⟨_, c0, c1, c2, c3, c4, c5, c6, c7, c8, c9, c10, c11, c12, c13, c14, c15, c16, c17⟩ := ShC.of hS
 unfold maxLen at hcm
 clear h hn hb0 hS hR0 hT8
 by_cases x1 : x = 256
 ·subst x1
  rw [dsc_256]
  clear HC HAT HBt c12 c13 c14 c15 c16 c17 hcm hnc h0 h1
  go_enter Tryz.func40, Tryz.ntmps40
  go_wp2_with fail
  refine (HD.out _).mono ?_
  rintro e u ⟨rfl, hb⟩
  have HB : Hid (Below w.heap.size w u) := bsq HB0.out hb
  clear hb HD
  go_wp2
  go_ret2
  exact ⟨rfl, HB.out⟩
 by_cases x2 : x = 512
 ·subst x2
  rw [dsc_512]
  clear HD HAT HBt c0 c1 c2 c3 c4 c5 c6 c7 c8 c9 c10 c11 c17 hcm hnc h0 h1 x1
  go_enter Tryz.func40, Tryz.ntmps40
  go_wp2_with fail
  refine HC.out.mono ?_
  rintro e u ⟨rfl, hb⟩
  have HB : Hid (Below w.heap.size w u) := bsq HB0.out hb
  clear hb HC
  go_wp2
  go_ret2
  exact ⟨rfl, HB.out⟩
 clear HC HD c0 c1 c2 c3 c4 c5 c6 c7 c8 c9 c10 c11 c12 c13 c14 c15 c16
 by_cases x3 : x = 768
 ·subst x3
  rw [dsc_768]
  clear HAT HBt hcm hnc h0 h1 x1 x2
  go_enter Tryz.func40, Tryz.ntmps40
  go_wp2
  go_ret2
  exact ⟨rfl, HB0.out⟩
 have y1 : (x == 256) = false := by simpa using x1
 have y2 : (x == 512) = false := by simpa using x2
 have y3 : (x == 768) = false := by simpa using x3
 by_cases x4 : ¬ (769 ≤ x ∧ x ≤ 768 + (n : Int))
 ·rw [dsc_none d c T x x1 x2 (by have := HN.out; omega)]
  have HB1 : Hid (∀ u : World, Calls Tryz.prog 13 #[.int .i64 x, .int .i64 769, .int .i64 (768 + (n : Int))] u fun e w' => e = .returned (.bool false) ∧ u = w') := fun u => by
   have := HBt.out u
   rwa [show (decide (769 ≤ x) && decide (x ≤ 768 + (n : Int))) = false by rw [Bool.and_eq_false_iff]; simp; omega] at this
  clear HAT x1 x2 x3 HBt x4
  go_enter Tryz.func40, Tryz.ntmps40
  go_wp2_with fail
  refine (HB1.out _).mono ?_
  rintro e u ⟨rfl, rfl⟩
  go_wp2
  go_ret2
  exact ⟨rfl, HB0.out⟩
 have x4 : 769 ≤ x ∧ x ≤ 768 + (n : Int) := by omega
 have HB1 : Hid (∀ u : World, Calls Tryz.prog 13 #[.int .i64 x, .int .i64 769, .int .i64 (768 + (n : Int))] u fun e w' => e = .returned (.bool true) ∧ u = w') := fun u => by
  have := HBt.out u
  rwa [decide_eq_true x4.1, decide_eq_true x4.2, Bool.true_and] at this
 obtain ⟨k, rfl⟩ : ∃ k : Nat, x = 769 + (k : Int) := ⟨(x - 769).toNat, by omega⟩
 have hkn : k < n := by omega
 obtain ⟨t, ht⟩ : ∃ t, T[k]? = some t := ⟨T[k]'(by have := HN.out; omega), List.getElem?_eq_getElem _⟩
 rw [dsc_text d c T k t ht]
 obtain ⟨g, off, rfl, k0⟩ := HAT k t ht
 have HT : Hid (Calls Tryz.prog 34 #[.string (strOfNums t)] w0 fun e w' => e = .returned (.tuple #[.string (dtxt (strOfNums t)), .int .i64 (werr (strOfNums t))]) ∧ Below w0.heap.size w0 w') := rtextText_any _ w0 (by rw [str_size]; exact hbig t (List.mem_of_getElem? ht))
 have z1 : 769 + (k : Int) - 769 = (k : Int) := by omega
 generalize strOfNums t = P at *
 clear HAT x1 x2 x3 x4 h0 h1 ht HBt
 go_enter Tryz.func40, Tryz.ntmps40
 go_wp2_with fail
 refine (HB1.out _).mono ?_
 rintro e u ⟨rfl, rfl⟩
 go_wp2_with fail
 refine HT.out.mono ?_
 rintro e u ⟨rfl, hb⟩
 have HB : Hid (Below w.heap.size w u) := bsq HB0.out hb
 clear hb HT
 go_wp2
 go_ret2
 exact ⟨rfl, HB.out⟩
end Go.Proofs.YtonheibhbilhhaaGreat.gadget
namespace Go.Proofs.YtonheibhbilhhaaGreat.gadget
open Go.RowKit Go.PlainAid Go.Proofs.YtonheibhbilhhaaGreat.lane Go.Proofs.YtonheibhbilhhaaGreat.desc
open Go.Proofs.YtonheibhbilhhaaGreat.setup (inS inS_iff)
set_option linter.unusedVariables false
set_option linter.unusedSimpArgs false
theorem ret_ib {a b : Int} {x y : Bool} (h1 : a = b) (h2 : x = y) : Ending.returned (.tuple #[.int .i64 a, .bool x]) = .returned (.tuple #[.int .i64 b, .bool y]) := by rw [h1, h2]
def hbV (c : Cf) (i : Int) : Int := if hasE c i = true then 2 ^ bitE i else 0
theorem hb_yes {c : Cf} {i : Int} (h : hasE c i = true) : hbV c i = 2 ^ bitE i := by unfold hbV; rw [if_pos h]
theorem hb_no {c : Cf} {i : Int} (h : hasE c i = false) : hbV c i = 0 := by unfold hbV; rw [if_neg (by rw [h]; decide)]
theorem two_at (n : Int) (k : Nat) (hn : n = (k : Int)) (hk : k ≤ 32) (w : World) : Calls Tryz.prog 76 #[.int .i64 n] w fun e w' => e = .returned (.int .i64 (2 ^ k)) ∧ w = w' := by
 subst hn
 exact (two_any k hk w).mono fun e w' ⟨h1, h2⟩ => ⟨h1, h2.symm⟩
set_option maxRecDepth 100000 in
set_option maxHeartbeats 8000000 in
theorem haltBit_any (d : Dv) (c : Cf) (L : FL) (v tv : Value) (i : Int) (w : World) (h : Rc w v c L) (htv : ∃ a n c, tv = .slice a n c) (hok : chkC c = 0) (hi : (0 ≤ i ∧ i ≤ 15) ∨ (128 ≤ i ∧ i ≤ 143)) :
  Calls Tryz.prog 42 #[shV d c v tv, .int .i64 i] w fun e w' => e = .returned (.tuple #[.int .i64 (hbV c i), .bool (hasE c i)]) ∧ Below w.heap.size w w' := by
 obtain ⟨ta, tn, tcp, rfl⟩ := htv
 obtain ⟨w0, hw0, hS, hb0⟩ := ShC.named w d c v (.slice ta tn tcp)
 have HB0 : Hid (Below w.heap.size w w0) := hb0
 obtain ⟨a, n, cap, rfl⟩ : ∃ a n c, v = .slice a n c := by obtain ⟨a, c, h, _⟩ := h.fs.row; exact ⟨_, _, _, h⟩
 by_cases i0 : i = 0
 ·subst i0
  have h1 : hasE c 0 = true := by unfold hasE; simp
  rw [hb_yes h1, h1]
  have HT : Hid (∀ u : World, Calls Tryz.prog 76 #[.int .i64 0] u fun e w' => e = .returned (.int .i64 (2 ^ bitE 0)) ∧ u = w') := fun u => two_at 0 0 rfl (by omega) u
  generalize (2 : Int) ^ bitE 0 = B at *
  clear h hok hS hb0 hi h1
  go_enter Tryz.func42, Tryz.ntmps42
  go_wp2_with fail
  refine (HT.out _).mono ?_
  rintro e u ⟨rfl, rfl⟩
  go_wp2
  go_ret2
  exact ⟨rfl, HB0.out⟩
 have n0 : (i == 0) = false := by simpa using i0
 by_cases i1 : i = 128
 ·subst i1
  have h1 : hasE c 128 = true := by unfold hasE; simp
  rw [hb_yes h1, h1]
  have HT : Hid (∀ u : World, Calls Tryz.prog 76 #[.int .i64 16] u fun e w' => e = .returned (.int .i64 (2 ^ bitE 128)) ∧ u = w') := fun u => two_at 16 16 rfl (by omega) u
  generalize (2 : Int) ^ bitE 128 = B at *
  clear h hok hS hb0 hi h1 i0
  go_enter Tryz.func42, Tryz.ntmps42
  go_wp2_with fail
  refine (HT.out _).mono ?_
  rintro e u ⟨rfl, rfl⟩
  go_wp2
  go_ret2
  exact ⟨rfl, HB0.out⟩
 have n1 : (i == 128) = false := by simpa using i1
 have hE : hasE c i = hasF i c.fs := by unfold hasE; rw [n0, n1, Bool.false_or, Bool.false_or]
 have HT1 : Hid (i < 128 → ∀ u : World, Calls Tryz.prog 76 #[.int .i64 i] u fun e w' => e = .returned (.int .i64 (2 ^ bitE i)) ∧ u = w') := fun q u => by
  have := two_at i i.toNat (by omega) (by omega) u
  unfold bitE; rw [if_pos q]; exact this
 have HT2 : Hid (¬ i < 128 → ∀ u : World, Calls Tryz.prog 76 #[.int .i64 (i - 112)] u fun e w' => e = .returned (.int .i64 (2 ^ bitE i)) ∧ u = w') := fun q u => by
  have := two_at (i - 112) (i - 112).toNat (by omega) (by omega) u
  unfold bitE; rw [if_neg q]; exact this
 have HV : Hid ((hasF i c.fs = true → hbV c i = 2 ^ bitE i) ∧ (hasF i c.fs = false → hbV c i = 0)) := ⟨fun q => hb_yes (hE.trans q), fun q => hb_no (hE.trans q)⟩
 rw [hE]
 generalize hbV c i = V at *
 generalize (2 : Int) ^ bitE i = B at *
 clear i0 i1 hE
 obtain ⟨_, _, _, _, _, _, _, _, _, _, _, _, _, _, _, _, _, c16, _⟩ := ShC.of hS
 obtain ⟨hn, hnc, hcm⟩ : n = L.length ∧ n ≤ cap ∧ cap ≤ maxLen := by obtain ⟨a', c', e, h1, h2, _⟩ := h.fs.row; injection e with e1 e2 e3; subst e2 e3; exact ⟨rfl, h1, h2⟩
 have HC : Hid (∀ u, Below w0.heap.size w0 u → ∀ j q, L[j]? = some q → ∃ g off, a = some ⟨g, off, none⟩ ∧ u.cell? ⟨g, off + j * 6, none⟩ = some (.int .i64 q.1.cl) ∧ u.cell? ⟨g, off + j * 6 + 1, none⟩ = some (.int .i64 q.1.su) ∧ u.cell? ⟨g, off + j * 6 + 2, none⟩ = some (.int .i64 q.1.pr) ∧ u.cell? ⟨g, off + j * 6 + 3, none⟩ = some (.int .i64 q.1.nm) ∧ u.cell? ⟨g, off + j * 6 + 4, none⟩ = some q.2.1 ∧ u.cell? ⟨g, off + j * 6 + 5, none⟩ = some q.2.2) :=
  fun u hu => Rfs.at' (h.fs.below (bsq hb0 hu))
 have HRf : Hid (∀ u, Below w0.heap.size w0 u → ∀ q ∈ L, Rf u q) := fun u hu q hq => (h.fs.all q hq).below (bsq hb0 hu)
 have HOK : Hid (∀ q ∈ L, ∀ e ∈ q.1.en, endOk e = true) := fun q hq => ((chkC_ok hok).fs q.1 (by rw [← h.eq]; exact List.mem_map.2 ⟨q, hq, rfl⟩)).en
 have HN : Hid (n = L.length) := hn
 have HH : Hid (hasF i ((L.drop 0).map Prod.fst) = hasF i c.fs) := by show _ = _; rw [List.drop_zero, h.eq]
 generalize hasF i c.fs = R at *
 unfold maxLen at hcm
 clear h hok hn hS hb0
 go_enter Tryz.func42, Tryz.ntmps42
 go_wp2
 clear c16
 go_loopw [23] (fun iv wr => ∃ k : Nat, k ≤ n ∧ iv = .int .i64 (k : Int) ∧ Below w0.heap.size w0 wr ∧ Hid (hasF i ((L.drop k).map Prod.fst) = R)) (fun iv _ => n - (intOf iv).toNat)
 case atStart => exact ⟨0, Nat.zero_le _, rfl, Below.refl _ _, HH.out⟩
 case round =>
  obtain ⟨k, hk, rfl, hbr, HR⟩ := hrel
  by_cases hlt : ¬ k < n
  ·have hR := HR.out
   rw [List.drop_eq_nil_of_le (by have := HN.out; omega)] at hR
   have HR2 : Hid (false = R) := hR
   have HV2 : Hid (0 = V) := (HV.out.2 hR.symm).symm
   have HB1 : Hid (Below w0.heap.size w0 wr) := hbr
   clear HC HRf HR hR hbr HH HOK HV HT1 HT2
   go_wp2
   go_ret2
   exact ⟨ret_ib HV2.out HR2.out, bsq HB0.out HB1.out⟩
  have hlt : k < n := by omega
  have hk1 : k < L.length := by have := HN.out; omega
  obtain ⟨q, hq⟩ : ∃ q, L[k]? = some q := ⟨L[k], List.getElem?_eq_getElem hk1⟩
  obtain ⟨g, off, rfl, k0, k1, k2, k3, k4, k5⟩ := HC.out wr hbr k q hq
  have hqm := List.mem_of_getElem? hq
  have hR := HR.out
  rw [hasF_at hq] at hR
  obtain ⟨ve1, ve2, ve3, hve⟩ : ∃ a n c, q.2.1 = .slice a n c := by obtain ⟨a, c, h, _⟩ := (HRf.out wr hbr q hqm).ex; exact ⟨_, _, _, h⟩
  obtain ⟨vd1, m, vd3, hvd⟩ : ∃ a n c, q.2.2 = .slice a n c := by obtain ⟨a, c, h, _⟩ := (HRf.out wr hbr q hqm).en; exact ⟨_, _, _, h⟩
  obtain ⟨hm, hmc, hdm⟩ : m = q.1.en.length ∧ m ≤ vd3 ∧ vd3 ≤ maxLen := by
   obtain ⟨a', c', e, h1, h2, _⟩ := (HRf.out wr hbr q hqm).en
   rw [hvd] at e; injection e with e1 e2 e3; subst e2 e3; exact ⟨rfl, h1, h2⟩
  unfold maxLen at hdm
  obtain ⟨w3, hw3⟩ : ∃ w3, wr.alloc (.cells #[.int .i64 q.1.cl, .int .i64 q.1.su, .int .i64 q.1.pr, .int .i64 q.1.nm, q.2.1, q.2.2] 74) = w3 := ⟨_, rfl⟩
  have hb3 : Below wr.heap.size wr w3 := by rw [← hw3]; exact balloc _ _
  have HB3 : Hid (Below w0.heap.size w0 w3) := bsq hbr hb3
  obtain ⟨e0, e1, e2, e3, e4, e5⟩ := box6 (show w3.heap[wr.heap.size]? = some (.cells #[.int .i64 q.1.cl, .int .i64 q.1.su, .int .i64 q.1.pr, .int .i64 q.1.nm, q.2.1, q.2.2] 74) by rw [← hw3]; exact (MapKept.heap_alloc wr _).1)
  have HNs : Hid (∀ u, Below w0.heap.size w0 u → ∀ j e, q.1.en[j]? = some e → ∃ g off, vd1 = some ⟨g, off, none⟩ ∧ u.cell? ⟨g, off + j * 5, none⟩ = some (.int .i64 e.ad) ∧ u.cell? ⟨g, off + j * 5 + 1, none⟩ = some (.bool e.inw) ∧ u.cell? ⟨g, off + j * 5 + 2, none⟩ = some (.int .i64 e.kd) ∧ u.cell? ⟨g, off + j * 5 + 3, none⟩ = some (.int .i64 e.mx) ∧ u.cell? ⟨g, off + j * 5 + 4, none⟩ = some (.int .i64 e.iv)) := fun u hu => by
   have hx := (HRf.out u hu q hqm).en
   rw [hvd] at hx
   exact Rns.at' hx
  have HEo : Hid (∀ e ∈ q.1.en, endOk e = true) := HOK.out q hqm
  obtain ⟨⟨cl, su, pr, nm, ex, en⟩, ve, vd⟩ := q
  simp only at *
  have HM : Hid (m = en.length) := hm
  have HR2 : Hid ((hasN i (en.drop 0) || hasF i ((L.drop (k + 1)).map Prod.fst)) = R) := hR
  subst hve hvd
  clear HC HRf HOK HR hR hq hqm hbr hb3 hm HH e0 e1 e2 e3 e4
  go_wp2
  clear e5 k0 k1 k2 k3 k4 k5
  rename World => wo
  go_loopw [30] (fun iv wr => ∃ j : Nat, j ≤ m ∧ iv = .int .i64 (j : Int) ∧ Below w0.heap.size w0 wr ∧ Hid ((hasN i (en.drop j) || hasF i ((L.drop (k + 1)).map Prod.fst)) = R)) (fun iv _ => m - (intOf iv).toNat)
  case atStart => exact ⟨0, Nat.zero_le _, rfl, HB3.out, HR2.out⟩
  case round =>
   obtain ⟨j, hj, rfl, hbr, HR⟩ := hrel
   by_cases hlt2 : ¬ j < m
   ·have hR := HR.out
    rw [List.drop_eq_nil_of_le (by have := HM.out; omega)] at hR
    have HR3 : Hid (hasF i ((L.drop (k + 1)).map Prod.fst) = R) := hR
    have HB1 : Hid (Below w0.heap.size w0 wr) := hbr
    clear HNs HEo HR hR hbr HR2 HB3 HV HT1 HT2
    go_wp2
    go_roundw
    case rel => exact ⟨k + 1, by omega, by go_num, HB1.out, HR3⟩
    case measure => simp [intOf]; omega
   have hlt2 : j < m := by omega
   have hj1 : j < en.length := by have := HM.out; omega
   obtain ⟨e, he⟩ : ∃ e, en[j]? = some e := ⟨en[j], List.getElem?_eq_getElem hj1⟩
   obtain ⟨g2, off2, rfl, d0, d1, d2, d3, d4⟩ := HNs.out wr hbr j e he
   have hR := HR.out
   rw [hasN_at he] at hR
   obtain ⟨w2, hw2⟩ : ∃ w2, wr.alloc (.cells #[.int .i64 e.ad, .bool e.inw, .int .i64 e.kd, .int .i64 e.mx, .int .i64 e.iv] 89) = w2 := ⟨_, rfl⟩
   have hb2 : Below wr.heap.size wr w2 := by rw [← hw2]; exact balloc _ _
   obtain ⟨e0, e1, e2, e3, e4⟩ := box5 (show w2.heap[wr.heap.size]? = some (.cells #[.int .i64 e.ad, .bool e.inw, .int .i64 e.kd, .int .i64 e.mx, .int .i64 e.iv] 89) by rw [← hw2]; exact (MapKept.heap_alloc wr _).1)
   have HB2 : Hid (Below w0.heap.size w0 w2) := bsq hbr hb2
   obtain ⟨⟨ad1, ad2⟩, _⟩ := (endOk_iff e).1 (HEo.out e (List.mem_of_getElem? he))
   unfold numE at hR
   obtain ⟨ad, inw, kd, mx, iv⟩ := e
   simp only at *
   clear HNs HEo HR hbr hb2 HR2 HB3 he
   cases inw
   ·rw [if_neg (by decide)] at hR
    by_cases hN : ad = i
    ·have q1 : (ad == i) = true := by simpa using hN
     rw [q1, Bool.true_or, Bool.true_or] at hR
     have HR3 : Hid (true = R) := hR
     have HV2 : Hid (B = V) := (HV.out.1 hR.symm).symm
     have HT : Hid (∀ u : World, Calls Tryz.prog 76 #[.int .i64 i] u fun e w' => e = .returned (.int .i64 B) ∧ u = w') := HT1.out (by omega)
     clear hR hN HV HT1 HT2
     go_wp2_with fail
     refine (HT.out _).mono ?_
     rintro r u ⟨rfl, rfl⟩
     go_wp2
     go_ret2
     exact ⟨ret_ib HV2.out HR3.out, bsq HB0.out HB2.out⟩
    ·have q1 : (ad == i) = false := by simpa using hN
     rw [q1, Bool.false_or] at hR
     have HR3 : Hid ((hasN i (en.drop (j + 1)) || hasF i ((L.drop (k + 1)).map Prod.fst)) = R) := hR
     clear hR hN HV HT1 HT2
     go_wp2
     go_roundw
     case rel => exact ⟨j + 1, by omega, by go_num, HB2.out, HR3⟩
     case measure => simp [intOf]; omega
   ·rw [if_pos rfl] at hR
    by_cases hN : ad + 128 = i
    ·have q1 : (ad + 128 == i) = true := by simpa using hN
     rw [q1, Bool.true_or, Bool.true_or] at hR
     have HR3 : Hid (true = R) := hR
     have HV2 : Hid (B = V) := (HV.out.1 hR.symm).symm
     have HT : Hid (∀ u : World, Calls Tryz.prog 76 #[.int .i64 (i - 112)] u fun e w' => e = .returned (.int .i64 B) ∧ u = w') := HT2.out (by omega)
     clear hR hN HV HT1 HT2
     go_wp2_with fail
     refine (HT.out _).mono ?_
     rintro r u ⟨rfl, rfl⟩
     go_wp2
     go_ret2
     exact ⟨ret_ib HV2.out HR3.out, bsq HB0.out HB2.out⟩
    ·have q1 : (ad + 128 == i) = false := by simpa using hN
     rw [q1, Bool.false_or] at hR
     have HR3 : Hid ((hasN i (en.drop (j + 1)) || hasF i ((L.drop (k + 1)).map Prod.fst)) = R) := hR
     clear hR hN HV HT1 HT2
     go_wp2
     go_roundw
     case rel => exact ⟨j + 1, by omega, by go_num, HB2.out, HR3⟩
     case measure => simp [intOf]; omega
end Go.Proofs.YtonheibhbilhhaaGreat.gadget
