/- route: what plugref's NumPath answers. -/
import Derived.Test.YtllfokmpnalojaaRouG
namespace Go.Proofs.Ytllfokmpnalojaa.route
open Go Go.RowKit
set_option linter.unusedVariables false
set_option linter.unusedSimpArgs false
set_option maxRecDepth 100000

/-- the first seven digits tell what all digits tell -/
theorem seven {n : Int} (hm : n ≤ 9223372036854775807) : (chk (dg 7 n.toNat) = 0 ∧ num (dg 7 n.toNat) = n) ↔ chk (upk n) = 0 := by
  unfold upk
  by_cases h0 : 0 < n
  · rw [if_pos h0]
    by_cases hb : n.toNat < 16777216
    · rw [dg_seven hb]
      have e : num (dg 16 n.toNat) = n := by
        have := num_upk h0 hm
        unfold upk at this
        rw [if_pos h0] at this
        exact this
      rw [e]
      simp
    · have h2 := dg_far (n := n.toNat) (by omega)
      constructor
      · rintro ⟨h, _⟩
        have := chk_ok h
        omega
      · intro h
        have := chk_ok h
        omega
  · rw [if_neg h0, show n.toNat = 0 by omega, dg_zero]
    simp [chk]
theorem seven_is {n : Int} (hm : n ≤ 9223372036854775807) (h : chk (upk n) = 0) : dg 7 n.toNat = upk n := by
  have h1 := (seven hm).2 h
  generalize dg 7 n.toNat = L at h1
  have hk := chk_ok h1.1
  have e := upk_num hk.2.2 hk.2.1 hk.1
  rw [h1.2] at e
  exact e.symm
set_option maxHeartbeats 4000000 in
theorem numPath_any (n : Int) (w : World) (hm : n ≤ 9223372036854775807) (hm0 : -9223372036854775808 ≤ n) : Calls Try.prog 8 #[.int .i64 n] w fun e w' => ∃ v, e = .returned (.tuple #[v, .int .i64 (upC n)]) ∧ Iw w' w.heap.size v (upL n) ∧ Below w.heap.size w w' := by
  obtain ⟨N, hN⟩ : ∃ N : Nat, n.toNat = N := ⟨_, rfl⟩
  have hsv := seven hm
  have hsi := @seven_is n hm
  rw [hN] at hsv hsi
  obtain ⟨L, hL⟩ : ∃ L, dg 7 N = L := ⟨_, rfl⟩
  have HL : Hid (dg 7 N = L) := hL
  rw [hL] at hsv hsi
  unfold upC upL
  obtain ⟨C, hC⟩ : ∃ C : Int, (if chk (upk n) = 0 then 0 else 4) = C := ⟨_, rfl⟩
  obtain ⟨R, hR⟩ : ∃ R, (if chk (upk n) = 0 then upk n else []) = R := ⟨_, rfl⟩
  have HC0 : Hid (chk L = 0 ∧ num L = n → C = 0 ∧ R = L) := fun h => by have q := hsv.1 h; rw [if_pos q] at hC hR; exact ⟨hC.symm, by rw [hsi q]; exact hR.symm⟩
  have HC1 : Hid (¬ (chk L = 0 ∧ num L = n) → C = 4 ∧ R = []) := fun h => by have q : ¬ chk (upk n) = 0 := fun q => h (hsv.2 q); rw [if_neg q] at hC hR; exact ⟨hC.symm, hR.symm⟩
  rw [hC, hR]
  have hNb : N ≤ 9223372036854775807 := by omega
  have HNn : Hid ((0 < n → n = (N : Int)) ∧ (n ≤ 0 → N = 0)) := ⟨by omega, by omega⟩
  clear hN hL hC hR hsv hsi
  go_enter Try.func8, Try.ntmps8
  go_wp2
  go_loopw [5, 4] (fun i v wr => ∃ (k : Int) (m f : Nat) (acc : List Int), i = .int .i64 k ∧ (0 < k → k = (m : Int)) ∧ (k ≤ 0 → m = 0) ∧ m ≤ 9223372036854775807 ∧ acc.length + f = 7 ∧ Hid (acc ++ dg f m = L) ∧ Hid (Iw wr w.heap.size v acc) ∧ Hid (Below w.heap.size w wr)) (fun i _ _ => (intOf i).toNat)
  case atStart => exact ⟨n, N, 7, [], rfl, HNn.out.1, HNn.out.2, hNb, rfl, HL.out, Iw.nil _ _, Below.refl _ _⟩
  case round =>
    clear HL HNn hNb
    obtain ⟨k, m, f, acc, rfl, hk1, hk2, hmb, hlf, HA, HI, HB⟩ := hrel
    obtain ⟨a0, c0, hv0, hlc0, hcm0⟩ := HI.out.ris.form
    by_cases hlt : ¬ (0 < k ∧ acc.length < 7)
    · have HE : Hid (acc = L) := by
        have := HA.out
        by_cases hk : 0 < k
        · have hf0 : f = 0 := by omega
          subst hf0
          have e : dg 0 m = [] := rfl
          rw [e, List.append_nil] at this
          exact this
        · have hm0 := hk2 (by omega)
          subst hm0
          rw [dg_zero, List.append_nil] at this
          exact this
      have HC : Hid (Calls Try.prog 6 #[_] wr fun e w' => e = .returned (.tuple #[.int .i64 (rpN L), .int .i64 (chk L)]) ∧ wr = w') := pathNum_any _ L wr (by rw [← HE.out]; exact HI.out.ris)
      subst hv0
      obtain ⟨q, hq⟩ : ∃ q, acc.length = q := ⟨_, rfl⟩
      have HI2 : Hid (Iw wr w.heap.size (.slice a0 q c0) acc) := by rw [← hq]; exact HI.out
      rw [hq] at HC hlc0 hlt ⊢
      have hrp : chk L = 0 → rpN L = num L := fun h => by unfold rpN; rw [if_pos h]
      generalize chk L = z at HC HC0 HC1 hrp
      unfold maxLen at hcm0
      have hq7 : q ≤ 7 := by omega
      clear HA HI hk1 hk2 hlf hq hmb
      by_cases hk : 0 < k
      · have hq7 : q = 7 := by omega
        subst hq7
        clear hlt
        go_wp2_with fail
        refine (HC.out).mono ?_
        rintro e u ⟨rfl, rfl⟩
        clear HC
        cases hz : (z != 0) with
        | true =>
          have HQ : Hid (C = 4 ∧ R = []) := HC1.out (fun h => by rw [h.1] at hz; simp at hz)
          clear HC0 HC1 hrp
          go_wp2
          go_ret2
          exact ⟨_, by rw [HQ.out.1]; rfl, by rw [HQ.out.2]; exact Iw.nil _ _, HB.out⟩
        | false =>
          have hz0 : z = 0 := by simpa using hz
          have hr := hrp hz0
          subst hz0
          generalize rpN L = r at hr
          cases hx : (r != n) with
          | true =>
            have HQ : Hid (C = 4 ∧ R = []) := HC1.out (fun h => by rw [hr, h.2] at hx; simp at hx)
            clear HC0 HC1 hrp hr
            go_wp2
            go_ret2
            exact ⟨_, by rw [HQ.out.1]; rfl, by rw [HQ.out.2]; exact Iw.nil _ _, HB.out⟩
          | false =>
            have HQ : Hid (C = 0 ∧ R = L) := HC0.out ⟨rfl, by rw [← hr]; simpa using hx⟩
            clear HC0 HC1 hrp hr
            go_wp2
            go_ret2
            exact ⟨_, by rw [HQ.out.1]; rfl, by rw [HQ.out.2, ← HE.out]; exact HI2.out, HB.out⟩
      · clear hlt
        have hk : k ≤ 0 := by omega
        go_wp2_with fail
        refine (HC.out).mono ?_
        rintro e u ⟨rfl, rfl⟩
        clear HC
        cases hz : (z != 0) with
        | true =>
          have HQ : Hid (C = 4 ∧ R = []) := HC1.out (fun h => by rw [h.1] at hz; simp at hz)
          clear HC0 HC1 hrp
          go_wp2
          go_ret2
          exact ⟨_, by rw [HQ.out.1]; rfl, by rw [HQ.out.2]; exact Iw.nil _ _, HB.out⟩
        | false =>
          have hz0 : z = 0 := by simpa using hz
          have hr := hrp hz0
          subst hz0
          generalize rpN L = r at hr
          cases hx : (r != n) with
          | true =>
            have HQ : Hid (C = 4 ∧ R = []) := HC1.out (fun h => by rw [hr, h.2] at hx; simp at hx)
            clear HC0 HC1 hrp hr
            go_wp2
            go_ret2
            exact ⟨_, by rw [HQ.out.1]; rfl, by rw [HQ.out.2]; exact Iw.nil _ _, HB.out⟩
          | false =>
            have HQ : Hid (C = 0 ∧ R = L) := HC0.out ⟨rfl, by rw [← hr]; simpa using hx⟩
            clear HC0 HC1 hrp hr
            go_wp2
            go_ret2
            exact ⟨_, by rw [HQ.out.1]; rfl, by rw [HQ.out.2, ← HE.out]; exact HI2.out, HB.out⟩
    · have hlt : 0 < k ∧ acc.length < 7 := by omega
      have hkm := hk1 hlt.1
      subst hkm
      obtain ⟨g, rfl⟩ : ∃ g, f = g + 1 := ⟨f - 1, by omega⟩
      have hm0 : m ≠ 0 := by omega
      have hmp : (0 : Int) < (m : Int) := by omega
      have HA2 : Hid ((acc ++ [((m % 16 : Nat) : Int)]) ++ dg g (m / 16) = L) := by
        have := HA.out
        rw [dg_pos hm0] at this
        show (acc ++ [((m % 16 : Nat) : Int)]) ++ dg g (m / 16) = L
        rw [List.append_assoc]
        exact this
      obtain ⟨r, hr⟩ : ∃ r, m % 16 = r := ⟨_, rfl⟩
      obtain ⟨s, hs⟩ : ∃ s, m / 16 = s := ⟨_, rfl⟩
      rw [hr] at HA2
      rw [hs] at HA2
      have hmod : (m : Int) % 16 = (r : Int) := by omega
      have hdiv : (m : Int) / 16 = (s : Int) := by omega
      have hsb : s ≤ 9223372036854775807 := by omega
      have hsm : s < m := by omega
      subst hv0
      obtain ⟨q, hq⟩ : ∃ q, acc.length = q := ⟨_, rfl⟩
      have HI2 : Hid (Iw wr w.heap.size (.slice a0 q c0) acc) := by rw [← hq]; exact HI.out
      have HX : Hid (acc.length ≤ 16) := by show acc.length ≤ 16; omega
      have HQ1 : Hid (q + (g + 1) = 7) := by show q + (g + 1) = 7; omega
      have hq7 : q < 7 := by omega
      have HQ2 : Hid (acc.length = q) := hq
      rw [hq] at hlc0 ⊢
      unfold maxLen at hcm0
      clear HA HI hk1 hk2 hlf hr hs hlt hq HC0 HC1
      go_wp2_with
        (at_builtin
         refine wpList_ints _ rfl _ _ rfl w.heap.size _ acc rfl (HI2.out.below (balloc _ _)) _ [(r : Int)] rfl (one_ris _ _) (by have := HX.out; simp; omega) (Nat.le_trans HB.out.size (by simp)) ?_
         intro v' w' q1 q3
         have t1 : Hid (Iw w' w.heap.size v' (acc ++ [(r : Int)])) := q1
         have t2 : Hid (Below w.heap.size w w') := (bsq HB.out (balloc _ _)).trans q3
         clear q1 q3)
      go_wp2
      go_roundw
      case rel => exact ⟨(s : Int), s, g, acc ++ [(r : Int)], by go_num, fun _ => rfl, by omega, hsb, by have := HQ1.out; have := HQ2.out; simp; omega, HA2.out, t1.out, t2.out⟩
      case measure => simp [intOf]; omega
end Go.Proofs.Ytllfokmpnalojaa.route
