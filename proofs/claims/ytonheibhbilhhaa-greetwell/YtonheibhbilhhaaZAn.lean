/- gadget: what descriptor, describe and to do. -/
import Derived.Test.YtonheibhbilhhaaZAm
namespace Go.Proofs.Ytonheibhbilhhaa.gadget
open Go.RowKit Go.PlainAid Go.Proofs.Ytonheibhbilhhaa.lane Go.Proofs.Ytonheibhbilhhaa.desc
open Go.Proofs.Ytonheibhbilhhaa.setup (inS inS_iff askc good rK rN rC)
open Go.Proofs.Ytonheibhbilhhaa.utf (werr)
set_option linter.unusedVariables false
set_option linter.unusedSimpArgs false

theorem four_lang : (⟨#[4, 3, 9, 4]⟩ : ByteArray) = strOfNums [4, 3, 9, 4] := rfl
theorem des_256 (d : Dv) (c : Cf) (T : List (List Int)) : desO d c T 256 = some (wdT d) := by unfold desO; rw [if_pos rfl]
theorem des_512 (d : Dv) (c : Cf) (T : List (List Int)) : desO d c T 512 = some (wcT c) := by unfold desO; rw [if_neg (by omega), if_pos rfl]
theorem des_768 (d : Dv) (c : Cf) (T : List (List Int)) : desO d c T 768 = some (strOfNums [4, 3, 9, 4]) := by unfold desO; rw [if_neg (by omega), if_neg (by omega), if_pos rfl]
theorem des_text (d : Dv) (c : Cf) (T : List (List Int)) (k : Nat) (t : List Int) (h : T[k]? = some t) : desO d c T (769 + (k : Int)) = some (dtxt (strOfNums t)) := by
  have hk := (List.getElem?_eq_some_iff.1 h).1
  unfold desO
  rw [if_neg (by omega), if_neg (by omega), if_neg (by omega), if_pos (by omega), show (769 + (k : Int) - 769).toNat = k by omega]
  simp [List.getD, h]
theorem des_none (d : Dv) (c : Cf) (T : List (List Int)) (v : Int) (h1 : v ≠ 256) (h2 : v ≠ 512) (h3 : v < 768 ∨ 768 + (T.length : Int) < v) : desO d c T v = none := by
  unfold desO
  rw [if_neg h1, if_neg h2, if_neg (by omega), if_neg (by omega)]
def desT (o : Option ByteArray) : ByteArray := o.getD noT
set_option maxRecDepth 100000 in
set_option maxHeartbeats 8000000 in
theorem descriptor_any (d : Dv) (c : Cf) (L : FL) (v : Value) (T : List (List Int)) (tv : Value) (x : Int) (w : World) (h : Shr w c L v T tv) (h0 : 0 ≤ x) (h1 : x ≤ 65535) :
    Calls Try.prog 117 #[.int .i64 x, shV d c v tv] w fun e w' => e = .returned (.tuple #[.string (desT (desO d c T x)), .bool (desO d c T x).isSome]) ∧ Below w.heap.size w w' := by
  obtain ⟨w0, hw0, hS, hb0⟩ := ShC.named w d c v tv
  have HD : Hid (∀ u : World, Calls Try.prog 17 #[dvV d] u fun e w' => e = .returned (.tuple #[.string (wdT d), .int .i64 (wdC d)]) ∧ Below u.heap.size u w') := writeDevice_any d
  have HC : Hid (Calls Try.prog 18 #[cfV c v] w0 fun e w' => e = .returned (.tuple #[.string (wcT c), .int .i64 (chkC c)]) ∧ Below w0.heap.size w0 w') := writeConfig_any c v L w0 (h.rc.below hb0)
  have hR0 : Rts w0 tv T := h.tx.below hb0
  obtain ⟨fa, fn, fcp, rfl⟩ : ∃ a n c, v = .slice a n c := by obtain ⟨a, c, h, _⟩ := h.rc.fs.row; exact ⟨_, _, _, h⟩
  obtain ⟨a, n, cap, rfl⟩ : ∃ a n c, tv = .slice a n c := by obtain ⟨a, c, h, _⟩ := h.tx; exact ⟨_, _, _, h⟩
  obtain ⟨hn, hnc, hcm⟩ : n = T.length ∧ n ≤ cap ∧ cap ≤ maxLen := by obtain ⟨a', c', e, h1, h2, _⟩ := h.tx; injection e with e1 e2 e3; subst e2 e3; exact ⟨rfl, h1, h2⟩
  have HN : Hid (n = T.length) := hn
  have HB0 : Hid (Below w.heap.size w w0) := hb0
  have HAT := Rts.at' hR0
  obtain ⟨_, c0, c1, c2, c3, c4, c5, c6, c7, c8, c9, c10, c11, c12, c13, c14, c15, c16, c17⟩ := ShC.of hS
  unfold maxLen at hcm
  clear h hn hb0 hS hR0
  by_cases x1 : x = 256
  · subst x1
    rw [des_256]
    clear HC HAT c12 c13 c14 c15 c16 c17 hcm hnc h0 h1
    go_enter Try.func117, Try.ntmps117
    go_wp2_with fail
    refine (HD.out _).mono ?_
    rintro e u ⟨rfl, hb⟩
    have HB : Hid (Below w.heap.size w u) := bsq HB0.out hb
    clear hb HD
    go_wp2
    go_ret2
    exact ⟨rfl, HB.out⟩
  by_cases x2 : x = 512
  · subst x2
    rw [des_512]
    clear HD HAT c0 c1 c2 c3 c4 c5 c6 c7 c8 c9 c10 c11 c17 hcm hnc h0 h1 x1
    go_enter Try.func117, Try.ntmps117
    go_wp2_with fail
    refine HC.out.mono ?_
    rintro e u ⟨rfl, hb⟩
    have HB : Hid (Below w.heap.size w u) := bsq HB0.out hb
    clear hb HC
    go_wp2
    go_ret2
    exact ⟨rfl, HB.out⟩
  clear HC HD c0 c1 c2 c3 c4 c5 c6 c7 c8 c9 c10 c11 c12 c13 c14 c15 c16
  by_cases x3 : x = 768
  · subst x3
    rw [des_768]
    clear HAT hcm hnc h0 h1 x1 x2
    go_enter Try.func117, Try.ntmps117
    go_wp2
    go_ret2
    exact ⟨rfl, HB0.out⟩
  have y1 : (x == 256) = false := by simpa using x1
  have y2 : (x == 512) = false := by simpa using x2
  have y3 : (x == 768) = false := by simpa using x3
  by_cases x4 : x < 768
  · rw [des_none d c T x x1 x2 (.inl x4)]
    clear HAT hcm hnc x1 x2 x3
    go_enter Try.func117, Try.ntmps117
    go_wp2
    go_ret2
    exact ⟨rfl, HB0.out⟩
  by_cases x5 : 768 + (n : Int) < x
  · rw [des_none d c T x x1 x2 (.inr (by have := HN.out; omega))]
    clear HAT x1 x2 x3
    go_enter Try.func117, Try.ntmps117
    go_wp2
    go_ret2
    exact ⟨rfl, HB0.out⟩
  obtain ⟨k, rfl⟩ : ∃ k : Nat, x = 769 + (k : Int) := ⟨(x - 769).toNat, by omega⟩
  have hkn : k < n := by omega
  obtain ⟨t, ht⟩ : ∃ t, T[k]? = some t := ⟨T[k]'(by have := HN.out; omega), List.getElem?_eq_getElem _⟩
  rw [des_text d c T k t ht]
  obtain ⟨g, off, rfl, k0⟩ := HAT k t ht
  have HT : Hid (Calls Try.prog 83 #[.string (strOfNums t)] w0 fun e w' => e = .returned (.tuple #[.string (dtxt (strOfNums t)), .int .i64 (werr (strOfNums t))]) ∧ Below w0.heap.size w0 w') := writeText_any _ w0
  have z1 : 769 + (k : Int) - 768 = (k : Int) + 1 := by omega
  generalize strOfNums t = P at *
  clear HAT x1 x2 x3 x4 x5 h0 h1 ht
  go_enter Try.func117, Try.ntmps117
  go_wp2_with fail
  refine HT.out.mono ?_
  rintro e u ⟨rfl, hb⟩
  have HB : Hid (Below w.heap.size w u) := bsq HB0.out hb
  clear hb HT
  go_wp2
  go_ret2
  exact ⟨rfl, HB.out⟩
/-- what describe answers -/
def desA (s a h l : Int) : Option ByteArray → Ans
  | none => bad s a h 8
  | some t => ⟨s, a, h, cutT t l, 0⟩
set_option maxRecDepth 100000 in
set_option maxHeartbeats 8000000 in
theorem describe_any (p : Nat) (s a h : Int) (k x i l : Int) (d : Dv) (c : Cf) (L : FL) (v : Value) (T : List (List Int)) (tv : Value) (w : World) (hp : w.heap[p]? = some (anO s a h noT)) (hs : Shr w c L v T tv) (h0 : 0 ≤ x) (h1 : x ≤ 65535) (l0 : 0 ≤ l) (l1 : l ≤ 65535) :
    Calls Try.prog 101 #[.pointer (some ⟨p, 0, none⟩), setup.ask k x i l, shV d c v tv] w (AnP p w (desA s a h l (desO d c T x))) := by
  have hpw : p < w.heap.size := (Array.getElem?_eq_some_iff.1 hp).1
  obtain ⟨wa, hwa, ha0, hba⟩ := ask_named w k x i l
  obtain ⟨w0, hw0, hS0, hb0⟩ := ShC.named wa d c v tv
  have hz1 : w.heap.size ≤ wa.heap.size := hba.size
  have hz2 : wa.heap.size ≤ w0.heap.size := hb0.size
  have HDe : Hid (Calls Try.prog 117 #[.int .i64 x, shV d c v tv] w0 fun e w' => e = .returned (.tuple #[.string (desT (desO d c T x)), .bool (desO d c T x).isSome]) ∧ Below w0.heap.size w0 w') := descriptor_any d c L v T tv x w0 (hs.below (bsq hba hb0)) h0 h1
  obtain ⟨fa, fn, fcp, rfl⟩ : ∃ a n c, v = .slice a n c := by obtain ⟨a, c, h, _⟩ := hs.rc.fs.row; exact ⟨_, _, _, h⟩
  obtain ⟨ta, tn, tcp, rfl⟩ : ∃ a n c, tv = .slice a n c := by obtain ⟨a, c, h, _⟩ := hs.tx; exact ⟨_, _, _, h⟩
  have HP : Hid (w0.heap[p]? = some (anO s a h noT)) := keep (keep hp hba) hb0
  have HB : Hid (Below p w w0) := (hba.mono (by omega)).trans (hb0.mono (by omega))
  have HA : Hid (w0.heap[w.heap.size]? = some (askc k x i l)) := keep ha0 hb0
  obtain ⟨a0, a1, a2, a3⟩ := ask_box HA.out
  obtain ⟨_, c0, c1, c2, c3, c4, c5, c6, c7, c8, c9, c10, c11, c12, c13, c14, c15, c16, c17⟩ := ShC.of hS0
  have hpz : p ≤ w0.heap.size := by omega
  generalize desO d c T x = o at *
  clear hs hp hba hb0 ha0 hS0 hz1 hz2 h0 h1
  cases o with
  | none =>
    have HDe : Hid (Calls Try.prog 117 #[.int .i64 x, shV d c (.slice fa fn fcp) (.slice ta tn tcp)] w0 fun e w' => e = .returned (.tuple #[.string noT, .bool false]) ∧ Below w0.heap.size w0 w') := HDe
    go_enter Try.func101, Try.ntmps101
    go_wp2_with fail
    refine HDe.out.mono ?_
    rintro e u ⟨rfl, hb⟩
    have HBu : Hid (Below p w u) := HB.out.trans (hb.mono hpz)
    have HPu : Hid (u.heap[p]? = some (anO s a h noT)) := keep HP.out hb
    clear hb HDe
    go_wp2
    go_ret
    exact ⟨rfl, HBu.out, HPu.out⟩
  | some t =>
    have HDe : Hid (Calls Try.prog 117 #[.int .i64 x, shV d c (.slice fa fn fcp) (.slice ta tn tcp)] w0 fun e w' => e = .returned (.tuple #[.string t, .bool true]) ∧ Below w0.heap.size w0 w') := HDe
    have HX : Hid (t.extract 0 (min (t.size : Int) l).toNat = cutT t l) := by
      show _ = _
      unfold cutT
      congr 1
      omega
    have HR : Hid (desA s a h l (some t) = ⟨s, a, h, cutT t l, 0⟩) := rfl
    rw [HR.out]
    generalize cutT t l = ct at *
    clear HR
    go_enter Try.func101, Try.ntmps101
    go_wp2_with fail
    refine HDe.out.mono ?_
    rintro e u ⟨rfl, hb⟩
    have HBu : Hid (Below p w u) := HB.out.trans (hb.mono hpz)
    have HPu : Hid (u.heap[p]? = some (anO s a h noT)) := keep HP.out hb
    have HAu : Hid (u.heap[w.heap.size]? = some (askc k x i l)) := keep HA.out hb
    clear hb HDe a0 a1 a2 a3 c0 c1 c2 c3 c4 c5 c6 c7 c8 c9 c10 c11 c12 c13 c14 c15 c16 c17
    obtain ⟨⟨hz, c0, c1, c2, c3⟩, f0, f1, f2, f3⟩ := an_box HPu.out
    obtain ⟨a0, a1, a2, a3⟩ := ask_box HAu.out
    go_wp2
    go_ret
    exact ⟨rfl, bset HBu.out _ _, an_set 3 _ HPu.out (by rw [HX.out]; rfl)⟩
end Go.Proofs.Ytonheibhbilhhaa.gadget
