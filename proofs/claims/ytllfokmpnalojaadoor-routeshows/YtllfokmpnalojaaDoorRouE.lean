/- route: what Unpack answers. -/
import Derived.Test.YtllfokmpnalojaaDoorRouB
import Derived.Test.YtllfokmpnalojaaDoorRouN
import Derived.Laws.BitsAllLaws
import Derived.Laws.BitsLemmas
namespace Go.Proofs.YtllfokmpnalojaaDoor.route
open Go Go.RowKit
set_option linter.unusedVariables false
set_option linter.unusedSimpArgs false
set_option maxRecDepth 100000

/-- a slice of one number, in a place of its own -/
theorem one_ris (w : World) (x : Int) : Ris (w.alloc (.cells #[.int .i64 x] 3)) (.slice (some ⟨w.heap.size, 0, none⟩) 1 1) [x] := by
  refine ⟨_, _, rfl, Nat.le_refl _, by unfold maxLen; simp, fun _ => ⟨w.heap.size, 0, rfl, by simp, fun j y hy => ?_⟩⟩
  have hj : j = 0 := by have := (List.getElem?_eq_some_iff.1 hy).1; simp at this; exact this
  subst hj
  simp at hy
  subst hy
  simp
theorem i64_and15 (m : Nat) (h : m ≤ 9223372036854775807) : bits .and .i64 (m : Int) 15 = ((m % 16 : Nat) : Int) := by
  have h3 : (BitVec.ofInt 64 15).toNat = 2 ^ 4 - 1 := by decide
  have key : (BitVec.ofInt 64 (m : Int) &&& BitVec.ofInt 64 15).toNat = ((m : Int) % ((2 ^ 64 : Nat) : Int)).toNat % 2 ^ 4 := by
    rw [BitVec.toNat_and, BitVec.toNat_ofInt, h3, Nat.and_two_pow_sub_one_eq_mod]
  show IntKind.i64.wrap ((BitVec.ofInt 64 (m : Int) &&& BitVec.ofInt 64 15).toNat : Nat) = _
  rw [key, IntKind.wrap_i64]
  omega
/-- what Unpack answers -/
def upC (n : Int) : Int := if chk (upk n) = 0 then 0 else 4
def upL (n : Int) : List Int := if chk (upk n) = 0 then upk n else []
set_option maxHeartbeats 2000000 in
theorem unpack_any (n : Int) (w : World) (hm : n ≤ 9223372036854775807) : Calls Tryd.prog 13 #[.int .i64 n] w fun e w' => ∃ v, e = .returned (.tuple #[v, .int .i64 (upC n)]) ∧ Iw w' w.heap.size v (upL n) ∧ Below w.heap.size w w' := by
  obtain ⟨N, hN⟩ : ∃ N : Nat, N = n.toNat := ⟨_, rfl⟩
  have HU : Hid (upk n = dg 16 N) := by
    show upk n = _
    unfold upk
    rw [hN]
    split
    · rfl
    · rw [show n.toNat = 0 by omega, dg_zero]
  have HS : Hid (∃ i : Int, n = i ∧ (0 < i → i = (N : Int)) ∧ N < 18446744073709551616) := ⟨n, rfl, by omega, by omega⟩
  unfold upC upL
  obtain ⟨L, hL⟩ : ∃ L, upk n = L := ⟨_, rfl⟩
  rw [hL]
  have HL : Hid (dg 16 N = L) := by have := HU.out; rw [hL] at this; exact this.symm
  obtain ⟨C, hC⟩ : ∃ C : Int, (if chk L = 0 then 0 else 4) = C := ⟨_, rfl⟩
  obtain ⟨R, hR⟩ : ∃ R, (if chk L = 0 then L else []) = R := ⟨_, rfl⟩
  have HC0 : Hid (chk L = 0 → C = 0 ∧ R = L) := fun h => by rw [if_pos h] at hC hR; exact ⟨hC.symm, hR.symm⟩
  have HC1 : Hid (chk L ≠ 0 → C = 4 ∧ R = []) := fun h => by rw [if_neg h] at hC hR; exact ⟨hC.symm, hR.symm⟩
  rw [hC, hR]
  clear hC hR
  have hNb : N ≤ 9223372036854775807 := by omega
  have HNn : Hid ((0 < n → n = (N : Int)) ∧ (n ≤ 0 → N = 0)) := ⟨by omega, by omega⟩
  have H16 : Hid (N < 16 ^ 16) := by
    show N < 16 ^ 16
    have : (16 : Nat) ^ 16 = 18446744073709551616 := by decide
    omega
  clear hN hL HU HS
  go_enter Tryd.func13, Tryd.ntmps13
  go_wp2
  go_loopw [0, 4] (fun i v wr => ∃ (k : Int) (m f : Nat) (acc : List Int), i = .int .i64 k ∧ (0 < k → k = (m : Int)) ∧ (k ≤ 0 → m = 0) ∧ m ≤ 9223372036854775807 ∧ m < 16 ^ f ∧ acc.length + f = 16 ∧ Hid (acc ++ dg f m = L) ∧ Hid (Iw wr w.heap.size v acc) ∧ Hid (Below w.heap.size w wr)) (fun i _ _ => (intOf i).toNat)
  case atStart => exact ⟨n, N, 16, [], rfl, HNn.out.1, HNn.out.2, hNb, H16.out, rfl, HL.out, Iw.nil _ _, Below.refl _ _⟩
  case round =>
    clear HL HNn hNb H16
    obtain ⟨k, m, f, acc, rfl, hk1, hk2, hmb, hf, hlf, HA, HI, HB⟩ := hrel
    by_cases hlt : ¬ 0 < k
    · have hm0 := hk2 (by omega)
      subst hm0
      have HE : Hid (acc = L) := by have := HA.out; rw [dg_zero, List.append_nil] at this; exact this
      have HC : Hid (Calls Tryd.prog 19 #[_] wr fun e w' => e = .returned (.int .i64 (chk L)) ∧ wr = w') := check_any _ L wr (by rw [← HE.out]; exact HI.out.ris)
      have hle : k ≤ 0 := by omega
      clear HA hk1 hk2 hf hlt
      go_wp2_with fail
      refine (HC.out).mono ?_
      rintro e u ⟨rfl, rfl⟩
      clear HC
      by_cases hc : chk L = 0
      · have HQ : Hid (C = 0 ∧ R = L) := HC0.out hc
        rw [hc]
        clear HC0 HC1 hc
        go_wp2
        go_ret2
        exact ⟨_, by rw [HQ.out.1]; rfl, by rw [HQ.out.2, ← HE.out]; exact HI.out, HB.out⟩
      · have HQ : Hid (C = 4 ∧ R = []) := HC1.out hc
        have hne : (chk L != 0) = true := by simpa using hc
        generalize chk L = z at hne
        clear HC0 HC1 hc
        go_wp2
        go_ret2
        exact ⟨_, by rw [HQ.out.1]; rfl, by rw [HQ.out.2]; exact Iw.nil _ _, HB.out⟩
    · have hlt : 0 < k := by omega
      have hkm := hk1 hlt
      subst hkm
      obtain ⟨g, rfl⟩ : ∃ g, f = g + 1 := ⟨f - 1, by
        rcases Nat.eq_zero_or_pos f with q | q
        · subst q; simp at hf; omega
        · omega⟩
      have hm0 : m ≠ 0 := by omega
      have HA2 : Hid ((acc ++ [((m % 16 : Nat) : Int)]) ++ dg g (m / 16) = L) := by
        have := HA.out
        rw [dg_pos hm0] at this
        show (acc ++ [((m % 16 : Nat) : Int)]) ++ dg g (m / 16) = L
        rw [List.append_assoc]
        exact this
      have hand : bits .and .i64 (m : Int) 15 = ((m % 16 : Nat) : Int) := i64_and15 m (by omega)
      obtain ⟨r, hr⟩ : ∃ r, m % 16 = r := ⟨_, rfl⟩
      obtain ⟨s, hs⟩ : ∃ s, m / 16 = s := ⟨_, rfl⟩
      rw [hr] at hand HA2
      rw [hs] at HA2
      have hdiv : (m : Int) / 16 = (s : Int) := by omega
      have hsb : s ≤ 9223372036854775807 := by omega
      have hsf : s < 16 ^ g := by rw [Nat.pow_succ] at hf; omega
      have hsm : s < m := by omega
      have HX : Hid (acc.length ≤ 16) := by show acc.length ≤ 16; omega
      clear HA hk1 hk2 hf hr hs
      go_wp2_with
        (at_builtin
         refine wpList_ints _ rfl _ _ rfl w.heap.size _ acc rfl (HI.out.below (balloc _ _)) _ [(r : Int)] rfl (one_ris _ _) (by have := HX.out; simp; omega) (Nat.le_trans HB.out.size (by simp)) ?_
         intro v' w' q1 q3
         have t1 : Hid (Iw w' w.heap.size v' (acc ++ [(r : Int)])) := q1
         have t2 : Hid (Below w.heap.size w w') := (bsq HB.out (balloc _ _)).trans q3
         clear q1 q3)
      go_wp2
      go_roundw
      case rel => exact ⟨(s : Int), s, g, acc ++ [(r : Int)], by go_num, fun _ => rfl, by omega, hsb, hsf, by simp; omega, HA2.out, t1.out, t2.out⟩
      case measure => simp [intOf]; omega
end Go.Proofs.YtllfokmpnalojaaDoor.route
