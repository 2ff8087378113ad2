/- PhyBack: the walk. -/
import Derived.Test.YtbkdalgmhmaofaaPhyV
import Derived.Test.YtbkdalgmhmaofaaShelfB
namespace Go.Proofs.Ytbkdalgmhmaofaa.phyBack
open Go.RowKit Go.PlainAid Go.Proofs.Ytbkdalgmhmaofaa.lane

theorem rests (n : Nat) : Lib.repeatL (⟨#[74]⟩ : ByteArray).data.toList n = List.replicate n 74 := by
  have := Lib.repeatL_replicate 74 1 n
  rw [Nat.mul_one] at this
  exact this
theorem rests_all (n : Nat) : ∀ y ∈ nums (⟨(List.replicate n (74 : UInt8)).toArray⟩ : ByteArray), y = 74 := by
  intro y hy
  rw [nums_arr] at hy
  obtain ⟨b, hb, rfl⟩ := List.mem_map.1 hy
  rw [(List.mem_replicate.1 hb).2]; rfl
set_option linter.unusedVariables false
set_option maxRecDepth 100000 in
set_option maxHeartbeats 2000000 in
theorem walk (a : Option Addr) (cap : Nat) (l : List ByteArray) (a1 : Int) (w : World) (ha : Sts w a l) (hcap : l.length ≤ cap) (hcm : cap ≤ maxLen) (hz : ∀ x ∈ l, x.size ≤ maxLen) :
    Calls Try.prog 6 #[.slice a l.length cap, .int .i64 a1] w fun e w' => e = .returned (.bool true) ∧ Below w.heap.size w w' := by
  have HL : Hid (∀ w : World, Calls Try.prog 11 #[] w fun r w' => r = .returned (.bool true) ∧ Below w.heap.size w w') := phyLives_any
  have hcm' : cap ≤ 9223372036854775807 := hcm
  by_cases hin : 0 ≤ a1 ∧ a1 ≤ 50 ∧ l.length ≤ 50
  · obtain ⟨h0, h50, hl50⟩ := hin
    obtain ⟨n, rfl⟩ := Int.eq_ofNat_of_zero_le h0
    obtain ⟨r, hr⟩ : ∃ r : ByteArray, ⟨(List.replicate n (74 : UInt8)).toArray⟩ = r := ⟨_, rfl⟩
    have hrs : r.size = n := by
      rw [← hr]
      show (List.replicate n (74 : UInt8)).toArray.size = n
      simp
    have hra : ∀ y ∈ nums r, y = 74 := by rw [← hr]; exact rests_all n
    have HR : Hid (∀ w, Calls Try.prog 16 #[.string ⟨#[74]⟩, .int .i64 (n : Int)] w fun e w' => e = .returned (.string r) ∧ Below w.heap.size w w') := fun w => by
      have := Try.strings_Repeat ⟨#[74]⟩ n w (by omega) (by show 1 * n ≤ _; omega)
      rw [rests, hr] at this
      exact this
    have HWd : Hid (∀ u, Below w.heap.size w u → Calls Try.prog 15 #[.slice a l.length cap, .string r] u fun e w' => ∃ v, e = .returned (.tuple #[.string ⟨(wireB r l).toArray⟩, v]) ∧ Hrs w' u.heap.size v (wantL l) ∧ Below u.heap.size u w') := fun u hu => wired_any a cap l r u (ha.below hu) hl50 hcap hcm (by omega) hz
    obtain ⟨q1, q2⟩ := wire_heard r hra l
    have hwl := wire_length r 809 (by omega) l
    have hT : (⟨(wireB r l).toArray⟩ : ByteArray).size ≤ 40450 := by
      show (wireB r l).toArray.size ≤ _
      rw [List.size_toArray]; omega
    obtain ⟨t, ht⟩ : ∃ t : ByteArray, ⟨(wireB r l).toArray⟩ = t := ⟨_, rfl⟩
    rw [ht] at q1 q2 hT HWd
    have HH : Hid (∀ w, Calls Try.prog 12 #[ear ⟨#[]⟩, .string t] w fun e w' => ∃ v, e = .returned (.tuple #[ear ⟨#[]⟩, v, .int .i64 0]) ∧ Hrs w' w.heap.size v (wantL l) ∧ Below w.heap.size w w') := fun w => by
      have := hear_ok ⟨#[]⟩ t w (by omega) (by decide) q2 rfl
      have e : hearL (nums ⟨#[]⟩) (nums t) = (wantL l, []) := q1
      rw [e] at this
      exact this
    have hq := eql_ear ⟨#[]⟩
    generalize wantL l = M at HWd HH
    have g1 : ¬ ((n : Int) < 0) := by omega
    have g2 : ¬ (50 < (n : Int)) := by omega
    have g3 : ¬ (50 < (l.length : Int)) := by omega
    clear ha hz q1 q2 hra hr hcm hwl ht hrs
    go_enter Try.func6, Try.ntmps6
    go_wp2_with fail
    refine (HR.out _).mono ?_
    rintro e u ⟨rfl, hb⟩
    have HB0 : Hid (Below w.heap.size w u) := hb
    clear hb
    go_wp2_with fail
    refine (HWd.out _ HB0.out).mono ?_
    rintro e u1 ⟨v1, rfl, hr1, hb⟩
    have HB1 : Hid (Below w.heap.size w u1) := bsq HB0.out hb
    have HR1 : Hid _ := hr1
    clear hb HB0 hr1
    go_wp2_with fail
    refine (HH.out _).mono ?_
    rintro e u2 ⟨v2, rfl, hr2, hb⟩
    have HB2 : Hid (Below w.heap.size w (u2.alloc (.cells #[.string ⟨#[]⟩] 30))) := bsq (bsq HB1.out hb) (balloc u2 _)
    have HC : Hid _ := ear_new u2 ⟨#[]⟩
    have HR2 : Hid _ := Hrs.below (Hrs.below HR1.out hb) (balloc u2 (.cells #[.string ⟨#[]⟩] 30))
    have HS2 : Hid _ := Hrs.below hr2 (balloc u2 (.cells #[.string ⟨#[]⟩] 30))
    clear hb HB1 HR1 hr2
    go_wp2_with fail
    refine (HL.out _).mono ?_
    rintro e u3 ⟨rfl, hb⟩
    have c0 := kc hb HC.out
    have HB3 : Hid (Below w.heap.size w u3) := bsq HB2.out hb
    obtain ⟨b3, c3, rfl, m3, l3, f3⟩ := Hrs.form (Hrs.below HS2.out hb)
    obtain ⟨b6, c6, rfl, m6, l6, f6⟩ := Hrs.form (Hrs.below HR2.out hb)
    have HE : Hid (Calls Try.prog 13 #[.slice b3 M.length c3, .slice b6 M.length c6] u3 fun e w' => e = .returned (.bool true) ∧ Below u3.heap.size u3 w') := equal_any b3 b6 c3 c6 M u3 f3 f6 m3 m6 l3 l6
    clear hb HB2 HC HR2 HS2 m3 m6 l3 l6 f3 f6
    go_wp2_with fail
    refine HE.out.mono ?_
    rintro e u4 ⟨rfl, hb⟩
    have HB4 : Hid (Below w.heap.size w u4) := bsq HB3.out hb
    clear hb HB3 HE
    go_wp2
    go_ret
    exact ⟨rfl, HB4.out⟩
  · have hcase : (a1 < 0) ∨ (¬ a1 < 0 ∧ 50 < a1) ∨ (¬ a1 < 0 ∧ ¬ 50 < a1 ∧ 50 < (l.length : Int)) := by omega
    clear ha hz hin
    rcases hcase with h1 | ⟨h1, h2⟩ | ⟨h1, h2, h3⟩
    all_goals
      go_enter Try.func6, Try.ntmps6
      go_wp2_with fail
      refine (HL.out _).mono ?_
      rintro e u ⟨rfl, hb⟩
      go_wp2
      go_ret
      exact ⟨rfl, hb⟩
end Go.Proofs.Ytbkdalgmhmaofaa.phyBack
