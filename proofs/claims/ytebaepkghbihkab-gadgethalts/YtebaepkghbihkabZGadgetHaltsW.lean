/- GadgetHalts: the walk. -/
import Derived.Test.YtebaepkghbihkabZAp
import Derived.Test.YtebaepkghbihkabZAk
import Derived.Test.YtebaepkghbihkabZCrcM
import Derived.Deep.QuietTactic
import Derived.BigQuiet
namespace Go.Proofs.Ytebaepkghbihkab.gadgetHalts
open Go.RowKit Go.PlainAid Go.Proofs.Ytebaepkghbihkab.lane Go.Proofs.Ytebaepkghbihkab.desc Go.Proofs.Ytebaepkghbihkab.gadget
open Go.Proofs.Ytebaepkghbihkab.setup (rK rN rC askc good wrT wrC)
open Go.Proofs.Ytebaepkghbihkab.crc (pop pop_and)
set_option linter.unusedVariables false
set_option linter.unusedSimpArgs false
theorem below_dN {B : Nat} {a w : World} (h : Below B a w) (n : Nat) : Below B a (w.drewN n) := ⟨h.os, h.tape, h.output, h.size, h.block⟩
theorem and_u64 (a b : Nat) (c d : Int) (ha : a < 18446744073709551616) (hb : b < 18446744073709551616) (hc : c = (a : Int)) (hd : d = (b : Int)) : bits BinOp.and IntKind.u64 c d = ((a &&& b : Nat) : Int) := by
  subst hc hd; exact u64_and_nat a b ha hb
theorem pop_le (k n : Nat) : pop k n ≤ k := by
  induction k generalizing n with
  | zero => exact Nat.le_refl _
  | succ k ih => have := ih (n / 2); rw [pop]; omega
theorem pop_zero (k : Nat) : pop k 0 = 0 := by
  induction k with
  | zero => rfl
  | succ k ih => rw [pop, Nat.zero_div, ih]
theorem ret_i64n {a b : Nat} (h : a = b) : Ending.returned (.int .i64 (a : Int)) = .returned (.int .i64 (b : Int)) := by rw [h]
set_option maxHeartbeats 400000 in
theorem ones_any (n : Nat) (hn : n < 18446744073709551616) (w : World) :
    Calls Try.prog 7 #[.int .u64 (n : Int)] w fun e w' => e = .returned (.int .i64 (pop 64 n : Nat)) ∧ w' = w := by
  go_enter Try.func7, Try.ntmps7
  go_wp2
  go_loop [0, 3] (fun nv kv => ∃ m k : Nat, m < 18446744073709551616 ∧ k ≤ 64 ∧ nv = .int .u64 (m : Int) ∧ kv = .int .i64 (k : Int) ∧ Hid (k + pop 64 m = pop 64 n)) (fun nv _ => (intOf nv).toNat)
  case atStart => exact ⟨n, 0, hn, by omega, rfl, rfl, Nat.zero_add _⟩
  case round =>
    obtain ⟨m, k, hm, hk, rfl, rfl, HR⟩ := hrel
    by_cases h0 : 0 < m
    · have e1 := and_u64 m (m - 1) (m : Int) ((m : Int) - 1) hm (by omega) rfl (by omega)
      have hp := pop_and 64 m h0 hm
      have hle : m &&& (m - 1) ≤ m - 1 := Nat.and_le_right
      obtain ⟨q, hq⟩ : ∃ q, q = m &&& (m - 1) := ⟨_, rfl⟩
      rw [← hq] at hp hle e1
      have hk2 : k + 1 ≤ 64 := by have h1 := HR.out; have h2 := pop_le 64 n; omega
      have H2 : Hid (k + 1 + pop 64 q = pop 64 n) := by show _ = _; have h := HR.out; omega
      clear hp HR hq
      go_wp2
      go_round
      case rel => exact ⟨q, k + 1, by omega, hk2, rfl, by go_num, H2⟩
      case measure => simp [intOf]; omega
    · obtain rfl : m = 0 := by omega
      go_wp2
      go_ret
      have h := HR.out
      rw [pop_zero, Nat.add_zero] at h
      exact ⟨ret_i64n h, rfl⟩
theorem pop_add : ∀ (m k n : Nat), k < m → n / 2 ^ k % 2 = 0 → pop m (n + 2 ^ k) = pop m n + 1 := by
  intro m
  induction m with
  | zero => intro k n h; omega
  | succ m ih =>
    intro k n hk hb
    rw [pop, pop]
    cases k with
    | zero =>
      rw [Nat.pow_zero, Nat.div_one] at hb
      rw [Nat.pow_zero, show (n + 1) / 2 = n / 2 by omega, show (n + 1) % 2 = 1 by omega]
      omega
    | succ k =>
      have e : 2 ^ (k + 1) = 2 * 2 ^ k := by rw [Nat.pow_succ, Nat.mul_comm]
      have hb2 : n / 2 / 2 ^ k % 2 = 0 := by rw [Nat.div_div_eq_div_mul, ← e]; exact hb
      have := ih k (n / 2) (by omega) hb2
      rw [e, show (n + 2 * 2 ^ k) / 2 = n / 2 + 2 ^ k by omega, show (n + 2 * 2 ^ k) % 2 = n % 2 by omega, this]
      omega
theorem on_off (h : Int) (k : Nat) : hOn h k = hOff h k + 2 ^ k ∧ had (hOff h k) k = false ∧ had (hOn h k) k = true := by
  have hp := pow_pos k
  unfold hOn hOff
  cases hh : had h k with
  | true =>
    rw [if_pos rfl, if_pos rfl]
    refine ⟨by omega, ?_, hh⟩
    unfold had at hh ⊢
    have e : (h - 2 ^ k) / 2 ^ k = h / 2 ^ k - 1 := by
      have := Int.add_mul_ediv_right h (-1) (show (2 : Int) ^ k ≠ 0 by omega)
      rw [show h - 2 ^ k = h + -1 * 2 ^ k by omega, this]; omega
    rw [e]
    simp at hh ⊢
    omega
  | false =>
    rw [if_neg (by decide), if_neg (by decide)]
    refine ⟨rfl, hh, ?_⟩
    unfold had at hh ⊢
    have e : (h + 2 ^ k) / 2 ^ k = h / 2 ^ k + 1 := by
      have := Int.add_mul_ediv_right h 1 (show (2 : Int) ^ k ≠ 0 by omega)
      rw [Int.one_mul] at this
      exact this
    rw [e]
    simp at hh ⊢
    omega
theorem again (h : Int) (k : Nat) : hOn (hOn h k) k = hOn h k ∧ hOff (hOn h k) k = hOff h k ∧ hOn (hOff h k) k = hOn h k ∧ hOn h k ≠ hOff h k ∧ (hOn h k = h ∨ hOff h k = h) := by
  obtain ⟨h1, h2, h3⟩ := on_off h k
  have hp := pow_pos k
  refine ⟨?_, ?_, ?_, by omega, ?_⟩
  · rw [hOn, if_pos h3]
  · rw [hOff, if_pos h3]; omega
  · rw [hOn, if_neg (by rw [h2]; decide)]; omega
  · unfold hOn hOff
    cases had h k with
    | true => left; rfl
    | false => right; rfl
theorem good23 (n : Int) : good 3 0 n 0 = setup.isE n ∧ good 2 0 n 0 = setup.isE n := by
  unfold good setup.fitB
  simp [setup.isK, setup.te, setup.inS, setup.col, setup.row]
/-- what comes of halts -/
theorem halts_facts {d : Dv} {c : Cf} {T : List (List Int)} {s a h n : Int} {A B : Ans} (hA : ctl d c T s a h (wrT 3 0 n 0) = A) (hB : ctl d c T s a h (wrT 2 0 n 0) = B) :
    (A.e = B.e ∧ ¬ A.e = 0 ∧ A = bad s a h A.e ∧ B = bad s a h B.e) ∨
    (∃ k : Nat, k < 32 ∧ 0 ≤ h ∧ h ≤ 4294967295 ∧ s = 2 ∧ A = ⟨2, a, hOn h k, noT, 0⟩ ∧ B = ⟨2, a, hOff h k, noT, 0⟩ ∧ ∀ x, 0 ≤ x → x ≤ 4294967295 → ctl d c T 2 a x (wrT 3 0 n 0) = ⟨2, a, hOn x k, noT, 0⟩ ∧ ctl d c T 2 a x (wrT 2 0 n 0) = ⟨2, a, hOff x k, noT, 0⟩) := by
  obtain ⟨g3, g2⟩ := good23 n
  by_cases q1 : ¬ chkS d c T = 0
  · left
    rw [← ctl_0 q1] at hA hB
    subst hA hB
    exact ⟨rfl, q1, rfl, rfl⟩
  have q1 : chkS d c T = 0 := by omega
  cases q2 : gR s a h with
  | false =>
    left
    rw [← ctl_1 q1 q2] at hA hB
    subst hA hB
    exact ⟨rfl, by show ¬ (1 : Int) = 0; omega, rfl, rfl⟩
  | true =>
    cases q3 : setup.isE n with
    | false =>
      left
      rw [q3] at g3 g2
      have e3 : wrT 3 0 n 0 = ⟨#[]⟩ := by unfold wrT; rw [if_neg (by rw [g3]; decide)]
      have e2 : wrT 2 0 n 0 = ⟨#[]⟩ := by unfold wrT; rw [if_neg (by rw [g2]; decide)]
      have hr : ¬ rC ⟨#[]⟩ = 0 := by intro z; have := (setup.rC_zero z).1; have e : (⟨#[]⟩ : ByteArray).size = 0 := rfl; omega
      rw [e3, ← ctl_2 q1 q2 hr] at hA
      rw [e2, ← ctl_2 q1 q2 hr] at hB
      subst hA hB
      exact ⟨rfl, by show ¬ (8 : Int) = 0; omega, rfl, rfl⟩
    | true =>
      rw [q3] at g3 g2
      have key : ∀ s h, gR s a h = true → ctl d c T s a h (wrT 3 0 n 0) = (if s ≠ 2 then bad s a h 8 else if hasE c n = false then bad s a h 8 else ⟨s, a, hOn h (bitE n), noT, 0⟩) ∧ ctl d c T s a h (wrT 2 0 n 0) = (if s ≠ 2 then bad s a h 8 else if hasE c n = false then bad s a h 8 else ⟨s, a, hOff h (bitE n), noT, 0⟩) := by
        intro s h hg
        constructor
        · rw [ctl_asked g3, if_neg (by omega), if_neg (by rw [hg]; decide), act_23 _ _ _ _ _ _ _ _ _ _ (.inr rfl)]
          rfl
        · rw [ctl_asked g2, if_neg (by omega), if_neg (by rw [hg]; decide), act_23 _ _ _ _ _ _ _ _ _ _ (.inl rfl)]
          rfl
      obtain ⟨kA, kB⟩ := key s h q2
      rw [kA] at hA
      rw [kB] at hB
      by_cases z : s ≠ 2
      · left
        rw [if_pos z] at hA hB
        subst hA hB
        exact ⟨rfl, by show ¬ (8 : Int) = 0; omega, rfl, rfl⟩
      rw [if_neg z] at hA hB
      by_cases y : hasE c n = false
      · left
        rw [if_pos y] at hA hB
        subst hA hB
        exact ⟨rfl, by show ¬ (8 : Int) = 0; omega, rfl, rfl⟩
      rw [if_neg y] at hA hB
      right
      have s2 : s = 2 := by omega
      subst s2
      have hg := gR_iff.1 q2
      refine ⟨bitE n, bitE_lt (good_end g3 (.inr rfl)), by omega, by omega, rfl, hA.symm, hB.symm, fun x x0 x1 => ?_⟩
      obtain ⟨xA, xB⟩ := key 2 x (gR_iff.2 (by omega))
      constructor
      · rw [xA, if_neg (by omega), if_neg y]
      · rw [xB, if_neg (by omega), if_neg y]
theorem one_more (h : Int) (k : Nat) (hk : k < 32) (h0 : 0 ≤ h) (h1 : h ≤ 4294967295) : (pop 64 (hOn h k).toNat : Int) = 1 + (pop 64 (hOff h k).toNat : Int) := by
  obtain ⟨e, f, _⟩ := on_off h k
  obtain ⟨_, r⟩ := set_range h k hk h0 h1
  obtain ⟨m, hm⟩ : ∃ m : Nat, hOff h k = (m : Int) := ⟨(hOff h k).toNat, by omega⟩
  rw [hm] at e f ⊢
  rw [had_nat] at f
  have hz : m / 2 ^ k % 2 = 0 := by simp at f; omega
  have ep : ((2 ^ k : Nat) : Int) = 2 ^ k := by simp
  rw [e, show ((m : Int) + 2 ^ k).toNat = m + 2 ^ k by omega, Int.toNat_natCast, pop_add 64 k m (by omega) hz]
  omega
theorem str8 (k v i l : Int) : (strOfNums (setup.txt k v i l)).size = 8 := by rw [lane.str_size]; rfl
theorem wr_sm (k v i l : Int) : (wrT k v i l).size ≤ maxLen := by
  unfold wrT
  split
  · rw [str8]; unfold maxLen; omega
  · exact Nat.zero_le _
set_option maxRecDepth 100000 in
set_option maxHeartbeats 16000000 in
theorem walk (d : Dv) (c : Cf) (L : FL) (v : Value) (T : List (List Int)) (tv : Value) (s a h : Int) (n : Int) (wn : (Lit.int .i64 n).wf = true) (w : World) (hs : Shr w c L v T tv) :
    Calls Try.prog 3 #[shV d c v tv, gdV s a h, .int .i64 n] w fun e w' => e = .returned (.bool true) ∧ Below w.heap.size w w' := by
  obtain ⟨w1, hw1, hS1, hb1⟩ := ShC.named w d c v tv
  obtain ⟨w2, hw2, hG2, hb2⟩ := gd_named w1 s a h
  have z1 : w.heap.size < w1.heap.size := (Array.getElem?_eq_some_iff.1 hS1).1
  have z2 : w1.heap.size < w2.heap.size := (Array.getElem?_eq_some_iff.1 hG2).1
  have HS : Hid (∀ u : World, Below w2.heap.size w2 u → u.heap[w.heap.size]? = some (shO d c v tv)) := fun u hu => keep (keep hS1 hb2) hu
  have HG : Hid (∀ u : World, Below w2.heap.size w2 u → u.heap[w1.heap.size]? = some (gdO s a h)) := fun u hu => keep hG2 hu
  have HB2 : Hid (Below w.heap.size w w2) := bsq hb1 hb2
  have HSr : Hid (∀ u : World, Below w2.heap.size w2 u → Shr u c L v T tv) := fun u hu => hs.below (bsq hb1 (bsq hb2 hu))
  obtain ⟨fa, fn, fcp, rfl⟩ : ∃ a n c, v = .slice a n c := by obtain ⟨a, c, h, _⟩ := hs.rc.fs.row; exact ⟨_, _, _, h⟩
  obtain ⟨ta, tn, tcp, rfl⟩ : ∃ a n c, tv = .slice a n c := by obtain ⟨a, c, h, _⟩ := hs.tx; exact ⟨_, _, _, h⟩
  have HL : Hid (∀ u : World, Calls Try.prog 6 #[] u fun e w' => e = .returned (.bool true) ∧ Below u.heap.size u w') := gadgetLives_any
  have hn : -9223372036854775808 ≤ n ∧ n ≤ 9223372036854775807 := bounds_i64 wn
  have HQ1 : Hid (∀ u : World, Calls Try.prog 4 #[.int .i64 3, .int .i64 0, .int .i64 n, .int .i64 0] u fun e w' => e = .returned (.string (wrT 3 0 n 0)) ∧ Below u.heap.size u w') := asked_any 3 0 n 0 hn
  have HQ2 : Hid (∀ u : World, Calls Try.prog 4 #[.int .i64 2, .int .i64 0, .int .i64 n, .int .i64 0] u fun e w' => e = .returned (.string (wrT 2 0 n 0)) ∧ Below u.heap.size u w') := asked_any 2 0 n 0 hn
  have hmA : (wrT 3 0 n 0).size ≤ maxLen := wr_sm _ _ _ _
  have HCA : Hid (∀ u : World, Below w2.heap.size w2 u → Calls Try.prog 5 #[shV d c (.slice fa fn fcp) (.slice ta tn tcp), gdV s a h, .string (wrT 3 0 n 0)] u fun e w' => e = .returned (ansV (ctl d c T s a h (wrT 3 0 n 0))) ∧ Below u.heap.size u w') := fun u hu => control_any d c L _ T _ s a h _ u (HSr.out u hu) hmA
  obtain ⟨A, hA⟩ : ∃ Y, ctl d c T s a h (wrT 3 0 n 0) = Y := ⟨_, rfl⟩
  have HYA : Hid (ctl d c T s a h (wrT 3 0 n 0) = A) := hA
  rw [hA] at HCA
  clear hA hmA
  have hmB : (wrT 2 0 n 0).size ≤ maxLen := wr_sm _ _ _ _
  have HCB : Hid (∀ u : World, Below w2.heap.size w2 u → Calls Try.prog 5 #[shV d c (.slice fa fn fcp) (.slice ta tn tcp), gdV s a h, .string (wrT 2 0 n 0)] u fun e w' => e = .returned (ansV (ctl d c T s a h (wrT 2 0 n 0))) ∧ Below u.heap.size u w') := fun u hu => control_any d c L _ T _ s a h _ u (HSr.out u hu) hmB
  obtain ⟨B, hB⟩ : ∃ Y, ctl d c T s a h (wrT 2 0 n 0) = Y := ⟨_, rfl⟩
  have HYB : Hid (ctl d c T s a h (wrT 2 0 n 0) = B) := hB
  rw [hB] at HCB
  clear hB hmB
  have hmC : (wrT 3 0 n 0).size ≤ maxLen := wr_sm _ _ _ _
  have HCC : Hid (∀ u : World, Below w2.heap.size w2 u → Calls Try.prog 5 #[shV d c (.slice fa fn fcp) (.slice ta tn tcp), gdV A.s A.a A.h, .string (wrT 3 0 n 0)] u fun e w' => e = .returned (ansV (ctl d c T A.s A.a A.h (wrT 3 0 n 0))) ∧ Below u.heap.size u w') := fun u hu => control_any d c L _ T _ A.s A.a A.h _ u (HSr.out u hu) hmC
  obtain ⟨C, hC⟩ : ∃ Y, ctl d c T A.s A.a A.h (wrT 3 0 n 0) = Y := ⟨_, rfl⟩
  have HYC : Hid (ctl d c T A.s A.a A.h (wrT 3 0 n 0) = C) := hC
  rw [hC] at HCC
  clear hC hmC
  have hmD : (wrT 2 0 n 0).size ≤ maxLen := wr_sm _ _ _ _
  have HCD : Hid (∀ u : World, Below w2.heap.size w2 u → Calls Try.prog 5 #[shV d c (.slice fa fn fcp) (.slice ta tn tcp), gdV A.s A.a A.h, .string (wrT 2 0 n 0)] u fun e w' => e = .returned (ansV (ctl d c T A.s A.a A.h (wrT 2 0 n 0))) ∧ Below u.heap.size u w') := fun u hu => control_any d c L _ T _ A.s A.a A.h _ u (HSr.out u hu) hmD
  obtain ⟨D, hD⟩ : ∃ Y, ctl d c T A.s A.a A.h (wrT 2 0 n 0) = Y := ⟨_, rfl⟩
  have HYD : Hid (ctl d c T A.s A.a A.h (wrT 2 0 n 0) = D) := hD
  rw [hD] at HCD
  clear hD hmD
  have hmE : (wrT 3 0 n 0).size ≤ maxLen := wr_sm _ _ _ _
  have HCE : Hid (∀ u : World, Below w2.heap.size w2 u → Calls Try.prog 5 #[shV d c (.slice fa fn fcp) (.slice ta tn tcp), gdV B.s B.a B.h, .string (wrT 3 0 n 0)] u fun e w' => e = .returned (ansV (ctl d c T B.s B.a B.h (wrT 3 0 n 0))) ∧ Below u.heap.size u w') := fun u hu => control_any d c L _ T _ B.s B.a B.h _ u (HSr.out u hu) hmE
  obtain ⟨E, hE⟩ : ∃ Y, ctl d c T B.s B.a B.h (wrT 3 0 n 0) = Y := ⟨_, rfl⟩
  have HYE : Hid (ctl d c T B.s B.a B.h (wrT 3 0 n 0) = E) := hE
  rw [hE] at HCE
  clear hE hmE
  have HF : Hid ((A.e = B.e ∧ ¬ A.e = 0 ∧ A = bad s a h A.e ∧ B = bad s a h B.e) ∨ (∃ k : Nat, k < 32 ∧ 0 ≤ h ∧ h ≤ 4294967295 ∧ s = 2 ∧ A = ⟨2, a, hOn h k, noT, 0⟩ ∧ B = ⟨2, a, hOff h k, noT, 0⟩ ∧ ∀ x, 0 ≤ x → x ≤ 4294967295 → ctl d c T 2 a x (wrT 3 0 n 0) = ⟨2, a, hOn x k, noT, 0⟩ ∧ ctl d c T 2 a x (wrT 2 0 n 0) = ⟨2, a, hOff x k, noT, 0⟩)) := halts_facts HYA.out HYB.out
  generalize hq3 : wrT 3 0 n 0 = on at *
  generalize hq2 : wrT 2 0 n 0 = off at *
  have HBw2 : Hid (Below w2.heap.size w2 w2) := Below.refl _ _
  clear hs hb1 hb2 hS1 hG2 HSr wn hn hq3 hq2
  go_enter Try.func3, Try.ntmps3
  go_upto_region 1 with (fail)
  go_cut [7, 8] from 24 (fun x y wx => x = .string on ∧ y = .string off ∧ Hid (Below w2.heap.size w2 wx))
  case first =>
    go_wp2_with fail
    refine (HQ1.out _).mono ?_
    rintro e ux ⟨rfl, hb⟩
    go_wp2_with fail
    refine (HQ2.out _).mono ?_
    rintro e uy ⟨rfl, hb2⟩
    go_wp2_with fail
    go_meet
    case rel => exact ⟨rfl, rfl, bsq hb hb2⟩
  case rest =>
  rename World => wz
  obtain ⟨rfl, rfl, HBwz⟩ := hcut
  go_upto_region 2 with (fail)
  go_cut [0, 1, 9, 10, 11] from 24 (fun _ _ pv tw cv wx => ∃ X : Nat, pv = .pointer (some ⟨X, 0, none⟩) ∧ tw = .string A.t ∧ cv = .int .i64 A.e ∧ Hid (Below wz.heap.size wz wx ∧ wx.heap[X]? = some (gdO A.s A.a A.h)))
  case first =>
    have hSx := HS.out wz HBwz.out
    obtain ⟨⟨zg, g0, g1, g2⟩, _⟩ := gd_box (HG.out wz HBwz.out)
    go_wp2_with (refine wpList_sheet rfl _ rfl w.heap.size rfl hSx ?_)
    refine (HCA.out _ HBwz.out).mono ?_
    rintro e ux ⟨rfl, hb⟩
    go_wp2_with fail
    go_meet
    case rel => exact ⟨ux.heap.size, rfl, rfl, rfl, bsq hb (balloc _ _), (MapKept.heap_alloc ux _).1⟩
  case rest =>
  rename World => wA
  obtain ⟨XA, rfl, rfl, rfl, HX⟩ := hcut
  have HBwA : Hid (Below w2.heap.size w2 wA) := bsq HBwz.out HX.out.1
  have HwzwA : Hid (Below wz.heap.size wz wA) := HX.out.1
  have FXA : Hid (∀ W : World, Below wA.heap.size wA W → W.heap[XA]? = some (gdO A.s A.a A.h)) := fun W hW => keep HX.out.2 hW
  clear HX HCA
  go_upto_region 3 with (fail)
  go_cut [12, 13, 14] from 24 (fun pv tw cv wx => ∃ X : Nat, pv = .pointer (some ⟨X, 0, none⟩) ∧ tw = .string B.t ∧ cv = .int .i64 B.e ∧ Hid (Below wA.heap.size wA wx ∧ wx.heap[X]? = some (gdO B.s B.a B.h)))
  case first =>
    have hSx := HS.out wA HBwA.out
    obtain ⟨⟨zg, g0, g1, g2⟩, _⟩ := gd_box (HG.out wA HBwA.out)
    go_wp2_with (refine wpList_sheet rfl _ rfl w.heap.size rfl hSx ?_)
    refine (HCB.out _ HBwA.out).mono ?_
    rintro e ux ⟨rfl, hb⟩
    go_wp2_with fail
    go_meet
    case rel => exact ⟨ux.heap.size, rfl, rfl, rfl, bsq hb (balloc _ _), (MapKept.heap_alloc ux _).1⟩
  case rest =>
  rename World => wB
  obtain ⟨XB, rfl, rfl, rfl, HX⟩ := hcut
  have HBwB : Hid (Below w2.heap.size w2 wB) := bsq HBwA.out HX.out.1
  have HwAwB : Hid (Below wA.heap.size wA wB) := HX.out.1
  have FXB : Hid (∀ W : World, Below wB.heap.size wB W → W.heap[XB]? = some (gdO B.s B.a B.h)) := fun W hW => keep HX.out.2 hW
  clear HX HCB
  rcases HF.out with ⟨f1, f2, f3, f4⟩ | ⟨k, k1, h0, h1, s2, fA, fB, fx⟩
  · have e1 : (A.e != 0) = true := by simpa using f2
    have e2 : (A.e == B.e) = true := by simpa using f1
    have FA : Hid (∀ W : World, Below wA.heap.size wA W → W.heap[XA]? = some (gdO s a h)) := fun W hW => by have := FXA.out W hW; rw [f3] at this; exact this
    have FB : Hid (∀ W : World, Below wB.heap.size wB W → W.heap[XB]? = some (gdO s a h)) := fun W hW => by have := FXB.out W hW; rw [f4] at this; exact this
    generalize A.e = ae at *
    generalize B.e = be at *
    clear HF FXA FXB f1 f2 f3 f4 HCC HCD HCE
    go_wp2_with fail
    refine (HL.out _).mono ?_
    rintro e wC ⟨rfl, hbC⟩
    have HBC : Hid (Below wB.heap.size wB wC) := hbC
    clear hbC
    go_wp2_with fail
    refine (HL.out _).mono ?_
    rintro e wD ⟨rfl, hbD⟩
    have HBD : Hid (Below wB.heap.size wB wD) := bsq HBC.out hbD
    clear hbD
    obtain ⟨⟨zg, g0, g1, g2⟩, _⟩ := gd_box (HG.out wD (bsq HBwB.out HBD.out))
    obtain ⟨⟨zx, x0, x1, x2⟩, _⟩ := gd_box (FA.out wD (bsq HwAwB.out HBD.out))
    obtain ⟨⟨zy, y0, y1, y2⟩, _⟩ := gd_box (FB.out wD HBD.out)
    have hq := eql_gd s a h s a h
    rw [same_self] at hq
    go_wp2
    go_ret
    exact ⟨rfl, bsq HB2.out (bsq HBwB.out HBD.out)⟩
  have e1 : (A.e != 0) = false := by rw [fA]; rfl
  have e2 : (B.e != 0) = false := by rw [fB]; rfl
  have HfA : Hid (A = ⟨2, a, hOn h k, noT, 0⟩) := fA
  have HfB : Hid (B = ⟨2, a, hOff h k, noT, 0⟩) := fB
  have HHS : Hid (s = 2) := s2
  have HHh : Hid (k < 32 ∧ 0 ≤ h ∧ h ≤ 4294967295) := ⟨k1, h0, h1⟩
  have HFX : Hid (∀ x, 0 ≤ x → x ≤ 4294967295 → ctl d c T 2 a x on = ⟨2, a, hOn x k, noT, 0⟩ ∧ ctl d c T 2 a x off = ⟨2, a, hOff x k, noT, 0⟩) := fx
  clear fA fB s2 k1 h0 h1 fx HF
  go_upto_region 4 with (fail)
  go_cut [53] from 24 (fun bv wx => bv = .bool false ∧ Hid (Below wB.heap.size wB wx))
  case first =>
    go_wp2_with fail
    refine (HL.out _).mono ?_
    rintro e ux ⟨rfl, hb⟩
    go_wp2_with fail
    go_meet
    case rel => exact ⟨rfl, hb⟩
  case rest =>
  rename World => wC
  obtain ⟨rfl, HwBwC⟩ := hcut
  have HBwC : Hid (Below w2.heap.size w2 wC) := bsq HBwB.out HwBwC.out
  go_upto_region 6 with (fail)
  go_cut [15, 16, 17] from 24 (fun pv tw cv wx => ∃ X : Nat, pv = .pointer (some ⟨X, 0, none⟩) ∧ tw = .string C.t ∧ cv = .int .i64 C.e ∧ Hid (Below wC.heap.size wC wx ∧ wx.heap[X]? = some (gdO C.s C.a C.h)))
  case first =>
    have hSx := HS.out wC HBwC.out
    obtain ⟨⟨zg, g0, g1, g2⟩, _⟩ := gd_box (FXA.out wC (bsq HwAwB.out HwBwC.out))
    go_wp2_with (refine wpList_sheet rfl _ rfl w.heap.size rfl hSx ?_)
    refine (HCC.out _ HBwC.out).mono ?_
    rintro e ux ⟨rfl, hb⟩
    go_wp2_with fail
    go_meet
    case rel => exact ⟨ux.heap.size, rfl, rfl, rfl, bsq hb (balloc _ _), (MapKept.heap_alloc ux _).1⟩
  case rest =>
  rename World => wD
  obtain ⟨XC, rfl, rfl, rfl, HX⟩ := hcut
  have HBwD : Hid (Below w2.heap.size w2 wD) := bsq HBwC.out HX.out.1
  have HwCwD : Hid (Below wC.heap.size wC wD) := HX.out.1
  have FXC : Hid (∀ W : World, Below wD.heap.size wD W → W.heap[XC]? = some (gdO C.s C.a C.h)) := fun W hW => keep HX.out.2 hW
  clear HX HCC
  go_upto_region 7 with (fail)
  go_cut [18, 19, 20] from 24 (fun pv tw cv wx => ∃ X : Nat, pv = .pointer (some ⟨X, 0, none⟩) ∧ tw = .string D.t ∧ cv = .int .i64 D.e ∧ Hid (Below wD.heap.size wD wx ∧ wx.heap[X]? = some (gdO D.s D.a D.h)))
  case first =>
    have hSx := HS.out wD HBwD.out
    obtain ⟨⟨zg, g0, g1, g2⟩, _⟩ := gd_box (FXA.out wD (bsq HwAwB.out (bsq HwBwC.out HwCwD.out)))
    go_wp2_with (refine wpList_sheet rfl _ rfl w.heap.size rfl hSx ?_)
    refine (HCD.out _ HBwD.out).mono ?_
    rintro e ux ⟨rfl, hb⟩
    go_wp2_with fail
    go_meet
    case rel => exact ⟨ux.heap.size, rfl, rfl, rfl, bsq hb (balloc _ _), (MapKept.heap_alloc ux _).1⟩
  case rest =>
  rename World => wE
  obtain ⟨XD, rfl, rfl, rfl, HX⟩ := hcut
  have HBwE : Hid (Below w2.heap.size w2 wE) := bsq HBwD.out HX.out.1
  have HwDwE : Hid (Below wD.heap.size wD wE) := HX.out.1
  have FXD : Hid (∀ W : World, Below wE.heap.size wE W → W.heap[XD]? = some (gdO D.s D.a D.h)) := fun W hW => keep HX.out.2 hW
  clear HX HCD
  go_upto_region 8 with (fail)
  go_cut [21, 22, 23] from 24 (fun pv tw cv wx => ∃ X : Nat, pv = .pointer (some ⟨X, 0, none⟩) ∧ tw = .string E.t ∧ cv = .int .i64 E.e ∧ Hid (Below wE.heap.size wE wx ∧ wx.heap[X]? = some (gdO E.s E.a E.h)))
  case first =>
    have hSx := HS.out wE HBwE.out
    obtain ⟨⟨zg, g0, g1, g2⟩, _⟩ := gd_box (FXB.out wE (bsq HwBwC.out (bsq HwCwD.out HwDwE.out)))
    go_wp2_with (refine wpList_sheet rfl _ rfl w.heap.size rfl hSx ?_)
    refine (HCE.out _ HBwE.out).mono ?_
    rintro e ux ⟨rfl, hb⟩
    go_wp2_with fail
    go_meet
    case rel => exact ⟨ux.heap.size, rfl, rfl, rfl, bsq hb (balloc _ _), (MapKept.heap_alloc ux _).1⟩
  case rest =>
  rename World => wF
  obtain ⟨XE, rfl, rfl, rfl, HX⟩ := hcut
  have HBwF : Hid (Below w2.heap.size w2 wF) := bsq HBwE.out HX.out.1
  have HwEwF : Hid (Below wE.heap.size wE wF) := HX.out.1
  have FXE : Hid (∀ W : World, Below wF.heap.size wF W → W.heap[XE]? = some (gdO E.s E.a E.h)) := fun W hW => keep HX.out.2 hW
  clear HX HCE
  have fA := HfA.out
  have fB := HfB.out
  have s2 := HHS.out
  clear HHS
  subst s2
  obtain ⟨k1, h0, h1⟩ := HHh.out
  have fx := HFX.out
  obtain ⟨rA, rB⟩ := set_range h k k1 h0 h1
  obtain ⟨n1, n2, n3, n4, n5⟩ := again h k
  have nP := one_more h k k1 h0 h1
  have fC : C = ⟨2, a, hOn h k, noT, 0⟩ := by have e := HYC.out; rw [fA] at e; rw [← e]; exact ((fx (hOn h k) rA.1 rA.2).1).trans (by rw [n1])
  have fD : D = ⟨2, a, hOff h k, noT, 0⟩ := by have e := HYD.out; rw [fA] at e; rw [← e]; exact ((fx (hOn h k) rA.1 rA.2).2).trans (by rw [n2])
  have fE : E = ⟨2, a, hOn h k, noT, 0⟩ := by have e := HYE.out; rw [fB] at e; rw [← e]; exact ((fx (hOff h k) rB.1 rB.2).1).trans (by rw [n3])
  generalize hOn h k = ho at *
  generalize hOff h k = hf at *
  have bEF := HwEwF.out
  have bDF := bsq HwDwE.out bEF
  have bCF := bsq HwCwD.out bDF
  have bBF := bsq HwBwC.out bCF
  have bAF := bsq HwAwB.out bBF
  have cA := FXA.out wF bAF
  have cB := FXB.out wF bBF
  have cC := FXC.out wF bDF
  have cD := FXD.out wF bEF
  have cE := FXE.out wF (Below.refl _ _)
  rw [fA] at cA
  rw [fB] at cB
  rw [fC] at cC
  rw [fD] at cD
  rw [fE] at cE
  obtain ⟨⟨z0, A0, A1, A2⟩, _⟩ := gd_box cA
  obtain ⟨⟨z1, B0, B1, B2⟩, _⟩ := gd_box cB
  obtain ⟨⟨z2, C0, C1, C2⟩, _⟩ := gd_box cC
  obtain ⟨⟨z3, D0, D1, D2⟩, _⟩ := gd_box cD
  obtain ⟨⟨z4, E0, E1, E2⟩, _⟩ := gd_box cE
  obtain ⟨⟨z5, G0, G1, G2⟩, _⟩ := gd_box (HG.out wF HBwF.out)
  have qa := eql_gd 2 a ho 2 a ho
  have qb := eql_gd 2 a hf 2 a hf
  rw [same_self] at qa qb
  have qg := eql_gd 2 a ho 2 a h
  have qk := eql_gd 2 a hf 2 a h
  have hsame : same 2 a ho 2 a h = true ∨ (same 2 a ho 2 a h = false ∧ same 2 a hf 2 a h = true) := by
    by_cases z : ho = h
    · left; rw [z]; exact same_self _ _ _
    · right
      refine ⟨by rw [Bool.eq_false_iff]; intro q; exact z (same_iff.1 q).2.2, ?_⟩
      exact same_iff.2 ⟨rfl, rfl, by rcases n5 with q | q; exact absurd q z; exact q⟩
  have m1 : (ho != hf) = true := by simpa using n4
  have w1o : ho % 18446744073709551616 = ho := by omega
  have w1f : hf % 18446744073709551616 = hf := by omega
  have HO1 : Hid (∀ u : World, Calls Try.prog 7 #[.int .u64 ho] u fun e w' => e = .returned (.int .i64 (pop 64 ho.toNat : Nat)) ∧ w' = u) := fun u => by have := ones_any ho.toNat (by omega) u; rwa [Int.toNat_of_nonneg (by omega)] at this
  have HO2 : Hid (∀ u : World, Calls Try.prog 7 #[.int .u64 hf] u fun e w' => e = .returned (.int .i64 (pop 64 hf.toNat : Nat)) ∧ w' = u) := fun u => by have := ones_any hf.toNat (by omega) u; rwa [Int.toNat_of_nonneg (by omega)] at this
  have pl := pop_le 64 hf.toNat
  generalize pop 64 ho.toNat = po at *
  generalize pop 64 hf.toNat = pf at *
  have nQ : ((po : Int) == 1 + (pf : Int)) = true := by simpa using nP
  have HBF : Hid (Below w2.heap.size w2 wF) := HBwF.out
  clear HfA HfB HHh HFX HS HG HL HYA HYB HYC HYD HYE fx n1 n2 n3 n4 n5 bEF bDF bCF bBF bAF cA cB cC cD cE FXA FXB FXC FXD FXE fA fB fC fD fE e1 e2 rA rB
  generalize same 2 a ho 2 a h = sb at *
  generalize same 2 a hf 2 a h = sk at *
  rcases hsame with rfl | ⟨rfl, rfl⟩
  all_goals
    go_wp2_with fail
    go_quiet (first
      | (go_at_call 7; with_reducible exact Calls.quiet_of_same (HO1.out _))
      | (go_at_call 7; with_reducible exact Calls.quiet_of_same (HO2.out _)))
    go_wp2
    go_ret
    exact ⟨rfl, bsq HB2.out (below_dN HBF.out _)⟩
end Go.Proofs.Ytebaepkghbihkab.gadgetHalts
