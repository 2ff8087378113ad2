/- plugref's gadget: what Described and haltBit answer. -/
import Derived.Test.YtebaepkghbihkaaGadS
import Derived.Test.YtebaepkghbihkaaGadA
import Derived.Test.YtebaepkghbihkaaGadD
namespace Go.Proofs.Ytebaepkghbihkaa.gadget
open Go.RowKit Go.PlainAid Go.Proofs.Ytebaepkghbihkaa.lane Go.Proofs.Ytebaepkghbihkaa.desc
open Go.Proofs.Ytebaepkghbihkaa.utf (werr)
open Go.Proofs.Ytebaepkghbihkaa.setup (inS inS_iff)
set_option linter.unusedVariables false
set_option linter.unusedSimpArgs false

theorem dsc_256 (d : Dv) (c : Cf) (T : List (List Int)) : desO d c T 256 = some (wdT d) := by unfold desO; rw [if_pos rfl]
theorem dsc_512 (d : Dv) (c : Cf) (T : List (List Int)) : desO d c T 512 = some (wcT c) := by unfold desO; rw [if_neg (by omega), if_pos rfl]
theorem dsc_768 (d : Dv) (c : Cf) (T : List (List Int)) : desO d c T 768 = some (strOfNums [4, 3, 9, 4]) := by unfold desO; rw [if_neg (by omega), if_neg (by omega), if_pos rfl]
theorem dsc_text (d : Dv) (c : Cf) (T : List (List Int)) (k : Nat) (t : List Int) (h : T[k]? = some t) : desO d c T (769 + (k : Int)) = some (dtxt (strOfNums t)) := by
  have hk := (List.getElem?_eq_some_iff.1 h).1
  unfold desO
  rw [if_neg (by omega), if_neg (by omega), if_neg (by omega), if_pos (by omega), show (769 + (k : Int) - 769).toNat = k by omega]
  simp [List.getD, h]
theorem dsc_none (d : Dv) (c : Cf) (T : List (List Int)) (v : Int) (h1 : v ≠ 256) (h2 : v ≠ 512) (h3 : v < 768 ∨ 768 + (T.length : Int) < v) : desO d c T v = none := by
  unfold desO
  rw [if_neg h1, if_neg h2, if_neg (by omega), if_neg (by omega)]
def dscT (o : Option ByteArray) : ByteArray := o.getD noT
set_option maxRecDepth 100000 in
set_option maxHeartbeats 8000000 in
theorem described_any (d : Dv) (c : Cf) (L : FL) (v : Value) (T : List (List Int)) (tv : Value) (x : Int) (w : World) (h : Shr w c L v T tv) (h0 : 0 ≤ x) (h1 : x ≤ 65535) (hT8 : T.length ≤ 8) (hbig : ∀ t ∈ T, t.length ≤ 17000000000000) :
    Calls Try.prog 34 #[shV d c v tv, .int .i64 x] w fun e w' => e = .returned (.tuple #[.string (dscT (desO d c T x)), .bool (desO d c T x).isSome]) ∧ Below w.heap.size w w' := by
  obtain ⟨w0, hw0, hS, hb0⟩ := ShC.named w d c v tv
  have HD : Hid (∀ u : World, Calls Try.prog 27 #[dvV d] u fun e w' => e = .returned (.tuple #[.string (wdT d), .int .i64 (wdC d)]) ∧ Below u.heap.size u w') := deviceText_any d
  have HC : Hid (Calls Try.prog 28 #[cfV c v] w0 fun e w' => e = .returned (.tuple #[.string (wcT c), .int .i64 (chkC c)]) ∧ Below w0.heap.size w0 w') := configText_any c v L w0 (h.rc.below hb0)
  have hR0 : Rts w0 tv T := h.tx.below hb0
  obtain ⟨fa, fn, fcp, rfl⟩ : ∃ a n c, v = .slice a n c := by obtain ⟨a, c, h, _⟩ := h.rc.fs.row; exact ⟨_, _, _, h⟩
  obtain ⟨a, n, cap, rfl⟩ : ∃ a n c, tv = .slice a n c := by obtain ⟨a, c, h, _⟩ := h.tx; exact ⟨_, _, _, h⟩
  obtain ⟨hn, hnc, hcm⟩ : n = T.length ∧ n ≤ cap ∧ cap ≤ maxLen := by obtain ⟨a', c', e, h1, h2, _⟩ := h.tx; injection e with e1 e2 e3; subst e2 e3; exact ⟨rfl, h1, h2⟩
  have HN : Hid (n = T.length) := hn
  have hn8 : n ≤ 8 := by omega
  have HBt : Hid (∀ u : World, Calls Try.prog 39 #[.int .i64 x, .int .i64 769, .int .i64 (768 + (n : Int))] u fun e w' => e = .returned (.bool (decide (769 ≤ x) && decide (x ≤ 768 + (n : Int)))) ∧ u = w') := fun u => between_any x 769 (768 + (n : Int)) u
  have HB0 : Hid (Below w.heap.size w w0) := hb0
  have HAT := Rts.at' hR0
  obtain ⟨_, c0, c1, c2, c3, c4, c5, c6, c7, c8, c9, c10, c11, c12, c13, c14, c15, c16, c17⟩ := ShC.of hS
  unfold maxLen at hcm
  clear h hn hb0 hS hR0 hT8
  by_cases x1 : x = 256
  · subst x1
    rw [dsc_256]
    clear HC HAT HBt c12 c13 c14 c15 c16 c17 hcm hnc h0 h1
    go_enter Try.func34, Try.ntmps34
    go_wp2_with fail
    refine (HD.out _).mono ?_
    rintro e u ⟨rfl, hb⟩
    have HB : Hid (Below w.heap.size w u) := bsq HB0.out hb
    clear hb HD
    go_wp2
    go_ret2
    exact ⟨rfl, HB.out⟩
  by_cases x2 : x = 512
  · subst x2
    rw [dsc_512]
    clear HD HAT HBt c0 c1 c2 c3 c4 c5 c6 c7 c8 c9 c10 c11 c17 hcm hnc h0 h1 x1
    go_enter Try.func34, Try.ntmps34
    go_wp2_with fail
    refine HC.out.mono ?_
    rintro e u ⟨rfl, hb⟩
    have HB : Hid (Below w.heap.size w u) := bsq HB0.out hb
    clear hb HC
    go_wp2
    go_ret2
    exact ⟨rfl, HB.out⟩
  clear HC HD c0 c1 c2 c3 c4 c5 c6 c7 c8 c9 c10 c11 c12 c13 c14 c15 c16
  by_cases x3 : x = 768
  · subst x3
    rw [dsc_768]
    clear HAT HBt hcm hnc h0 h1 x1 x2
    go_enter Try.func34, Try.ntmps34
    go_wp2
    go_ret2
    exact ⟨rfl, HB0.out⟩
  have y1 : (x == 256) = false := by simpa using x1
  have y2 : (x == 512) = false := by simpa using x2
  have y3 : (x == 768) = false := by simpa using x3
  by_cases x4 : ¬ (769 ≤ x ∧ x ≤ 768 + (n : Int))
  · rw [dsc_none d c T x x1 x2 (by have := HN.out; omega)]
    have HB1 : Hid (∀ u : World, Calls Try.prog 39 #[.int .i64 x, .int .i64 769, .int .i64 (768 + (n : Int))] u fun e w' => e = .returned (.bool false) ∧ u = w') := fun u => by
      have := HBt.out u
      rwa [show (decide (769 ≤ x) && decide (x ≤ 768 + (n : Int))) = false by rw [Bool.and_eq_false_iff]; simp; omega] at this
    clear HAT x1 x2 x3 HBt x4
    go_enter Try.func34, Try.ntmps34
    go_wp2_with fail
    refine (HB1.out _).mono ?_
    rintro e u ⟨rfl, rfl⟩
    go_wp2
    go_ret2
    exact ⟨rfl, HB0.out⟩
  have x4 : 769 ≤ x ∧ x ≤ 768 + (n : Int) := by omega
  have HB1 : Hid (∀ u : World, Calls Try.prog 39 #[.int .i64 x, .int .i64 769, .int .i64 (768 + (n : Int))] u fun e w' => e = .returned (.bool true) ∧ u = w') := fun u => by
    have := HBt.out u
    rwa [decide_eq_true x4.1, decide_eq_true x4.2, Bool.true_and] at this
  obtain ⟨k, rfl⟩ : ∃ k : Nat, x = 769 + (k : Int) := ⟨(x - 769).toNat, by omega⟩
  have hkn : k < n := by omega
  obtain ⟨t, ht⟩ : ∃ t, T[k]? = some t := ⟨T[k]'(by have := HN.out; omega), List.getElem?_eq_getElem _⟩
  rw [dsc_text d c T k t ht]
  obtain ⟨g, off, rfl, k0⟩ := HAT k t ht
  have HT : Hid (Calls Try.prog 29 #[.string (strOfNums t)] w0 fun e w' => e = .returned (.tuple #[.string (dtxt (strOfNums t)), .int .i64 (werr (strOfNums t))]) ∧ Below w0.heap.size w0 w') := rtextText_any _ w0 (by rw [str_size]; exact hbig t (List.mem_of_getElem? ht))
  have z1 : 769 + (k : Int) - 769 = (k : Int) := by omega
  generalize strOfNums t = P at *
  clear HAT x1 x2 x3 x4 h0 h1 ht HBt
  go_enter Try.func34, Try.ntmps34
  go_wp2_with fail
  refine (HB1.out _).mono ?_
  rintro e u ⟨rfl, rfl⟩
  go_wp2_with fail
  refine HT.out.mono ?_
  rintro e u ⟨rfl, hb⟩
  have HB : Hid (Below w.heap.size w u) := bsq HB0.out hb
  clear hb HT
  go_wp2
  go_ret2
  exact ⟨rfl, HB.out⟩
end Go.Proofs.Ytebaepkghbihkaa.gadget
