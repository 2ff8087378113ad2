/- greet: heads, devices, configurations and texts that are read. -/
import Derived.Test.YtonheibhbilhhaaGreE
import Derived.Test.YtonheibhbilhhaaDescZ
import Derived.Test.YtonheibhbilhhaaZAc
import Derived.Test.YtonheibhbilhhaaZBb
namespace Go.Proofs.Ytonheibhbilhhaa.greet
open Go Go.RowKit Go.PlainAid Go.Proofs.Ytonheibhbilhhaa.lane Go.Proofs.Ytonheibhbilhhaa.desc
open Go.Proofs.Ytonheibhbilhhaa.setup (inS inS_iff wrT wrC good txt)
set_option linter.unusedVariables false
set_option linter.unusedSimpArgs false
set_option maxRecDepth 100000

set_option maxHeartbeats 2000000 in
theorem readDeviceHead_any (s : ByteArray) (w : World) (hm : s.size ≤ maxLen) :
    Calls Try.prog 52 #[.string s] w fun e w' => (∃ x, (hdD s = true → x = bt s 7) ∧ e = .returned (.tuple #[.int .i64 x, .bool (hdD s)])) ∧ w = w' := by
  unfold maxLen at hm
  have hbt := get_bt s
  have b0 := bt_nonneg s 7
  have b1 := bt_le s 7
  have hwr : IntKind.i64.wrap (bt s 7) = bt s 7 := by rw [IntKind.wrap_i64]; omega
  unfold hdD
  by_cases h8 : s.size = 8
  case neg =>
    rw [decide_eq_false h8, Bool.false_and]
    have e1 : ((s.size : Int) != 8) = true := by simp; omega
    clear h8
    go_enter Try.func52, Try.ntmps52
    go_wp2
    go_ret2
    exact ⟨⟨0, (fun h => absurd h Bool.false_ne_true), rfl⟩, rfl⟩
  rw [decide_eq_true h8, Bool.true_and]
  by_cases h1 : bt s 0 = 18
  case neg =>
    have e1 : (bt s 0 != 18) = true := by simpa using h1
    have e2 : (bt s 0 == 18) = false := by simpa using h1
    rw [e2, Bool.false_and]
    clear h1
    go_enter Try.func52, Try.ntmps52
    go_wp2
    go_ret2
    exact ⟨⟨0, (fun h => absurd h Bool.false_ne_true), rfl⟩, rfl⟩
  have e0 : (bt s 0 != 18) = false := by simpa using h1
  rw [show (bt s 0 == 18) = true by simpa using h1, Bool.true_and]
  clear h1
  by_cases h1 : bt s 1 = 1
  case neg =>
    have e1 : (bt s 1 != 1) = true := by simpa using h1
    have e2 : (bt s 1 == 1) = false := by simpa using h1
    rw [e2, Bool.false_and]
    clear h1
    go_enter Try.func52, Try.ntmps52
    go_wp2
    go_ret2
    exact ⟨⟨0, (fun h => absurd h Bool.false_ne_true), rfl⟩, rfl⟩
  have e1 : (bt s 1 != 1) = false := by simpa using h1
  rw [show (bt s 1 == 1) = true by simpa using h1, Bool.true_and]
  clear h1
  unfold m0B
  cases h2 : (bt s 7 == 8)
  case true => go_enter Try.func52, Try.ntmps52; go_wp2; go_ret2; exact ⟨⟨_, fun _ => rfl, rfl⟩, rfl⟩
  cases h3 : (bt s 7 == 16)
  case true => go_enter Try.func52, Try.ntmps52; go_wp2; go_ret2; exact ⟨⟨_, fun _ => rfl, rfl⟩, rfl⟩
  cases h4 : (bt s 7 == 32)
  case true => go_enter Try.func52, Try.ntmps52; go_wp2; go_ret2; exact ⟨⟨_, fun _ => rfl, rfl⟩, rfl⟩
  cases h5 : (bt s 7 == 64)
  case true => go_enter Try.func52, Try.ntmps52; go_wp2; go_ret2; exact ⟨⟨_, fun _ => rfl, rfl⟩, rfl⟩
  go_enter Try.func52, Try.ntmps52
  go_wp2
  go_ret2
  exact ⟨⟨0, (fun h => absurd h Bool.false_ne_true), rfl⟩, rfl⟩
set_option maxHeartbeats 2000000 in
theorem readConfigHead_any (s : ByteArray) (w : World) (hm : s.size ≤ maxLen) :
    Calls Try.prog 54 #[.string s] w fun e w' => (∃ x, (hdC s = true → x = w2 s) ∧ e = .returned (.tuple #[.int .i64 x, .bool (hdC s)])) ∧ Below w.heap.size w w' := by
  unfold maxLen at hm
  have hbt := get_bt s
  have b0 := bt_nonneg s 2
  have b1 := bt_le s 2
  have c0 := bt_nonneg s 3
  have c1 := bt_le s 3
  have e3 := or_low .i64 32 8 (bt s 2).toNat (256 * (bt s 3).toNat) (bt s 2) (bt s 3 * 256) (by decide) wraps_i64 (by omega) (by omega) (by omega) (by omega) (by omega) (by omega)
  have ew : (((bt s 2).toNat + 256 * (bt s 3).toNat : Nat) : Int) = w2 s := by unfold w2; omega
  rw [ew] at e3
  unfold hdC
  by_cases h8 : s.size = 9
  case neg =>
    rw [decide_eq_false h8, Bool.false_and]
    have e1 : ((s.size : Int) != 9) = true := by simp; omega
    clear h8
    go_enter Try.func54, Try.ntmps54
    go_wp2
    go_ret2
    exact ⟨⟨0, (fun h => absurd h Bool.false_ne_true), rfl⟩, Below.refl _ _⟩
  rw [decide_eq_true h8, Bool.true_and]
  by_cases h1 : bt s 0 = 9
  case neg =>
    have e1 : (bt s 0 != 9) = true := by simpa using h1
    have e2 : (bt s 0 == 9) = false := by simpa using h1
    rw [e2, Bool.false_and]
    clear h1
    go_enter Try.func54, Try.ntmps54
    go_wp2
    go_ret2
    exact ⟨⟨0, (fun h => absurd h Bool.false_ne_true), rfl⟩, Below.refl _ _⟩
  have e0 : (bt s 0 != 9) = false := by simpa using h1
  rw [show (bt s 0 == 9) = true by simpa using h1, Bool.true_and]
  clear h1
  by_cases h1 : bt s 1 = 2
  case neg =>
    have e1 : (bt s 1 != 2) = true := by simpa using h1
    have e2 : (bt s 1 == 2) = false := by simpa using h1
    rw [e2, Bool.false_and]
    clear h1
    go_enter Try.func54, Try.ntmps54
    go_wp2
    go_ret2
    exact ⟨⟨0, (fun h => absurd h Bool.false_ne_true), rfl⟩, Below.refl _ _⟩
  have e1 : (bt s 1 != 2) = false := by simpa using h1
  rw [show (bt s 1 == 2) = true by simpa using h1, Bool.true_and]
  clear h1 ew
  unfold inS
  generalize w2 s = N at *
  cases h2 : decide (9 ≤ N) <;> cases h3 : decide (N ≤ 512)
  all_goals
    go_enter Try.func54, Try.ntmps54
    go_wp2_with fail
    go_quiet (fail)
    go_wp2
    go_ret2
    exact ⟨⟨_, fun _ => rfl, rfl⟩, below_drewN (Below.refl _ _) _⟩
/-- what readConfig tells -/
def rgB (s : ByteArray) (t : Int) : Bool := (rcO s).isSome && decide ((s.size : Int) = t)
theorem rgB_some {s : ByteArray} {t : Int} {c : Cf} (h : rcO s = some c) : rgB s t = decide ((s.size : Int) = t) := by unfold rgB; rw [h]; rfl
theorem rgB_none {s : ByteArray} {t : Int} (h : rcO s = none) : rgB s t = false := by unfold rgB; rw [h]; rfl
/-- what ReadConfig tells, by the configuration that it is -/
theorem rc_cases {s : ByteArray} {w w' : World} {e : Ending} (h : RcP s w e w') :
    (∃ z, z ≠ 0 ∧ rcO s = none ∧ e = .returned (.tuple #[cfV noC nilS, .int .i64 z]) ∧ Below w.heap.size w w') ∨
    (∃ c vf L, rcO s = some c ∧ e = .returned (.tuple #[cfV c vf, .int .i64 0]) ∧ Oc w w' vf L ∧ L.map Prod.fst = c.fs ∧ Below w.heap.size w w') := by
  rcases h with ⟨a1, a2, a3⟩ | ⟨a1, a2, a3, a4⟩ | ⟨c, vf, L, X, a1, a2, a3, a4, a5⟩
  · exact .inl ⟨_, a1, rcO_none (.inl a1), a2, a3⟩
  · exact .inl ⟨4, by decide, rcO_none (.inr a2), a3, a4⟩
  · exact .inr ⟨c, vf, L, rcO_some a1 a2, a3, inv_oc a4, a5, a4.bel⟩
set_option maxHeartbeats 2000000 in
theorem readConfig_greet (hco : CoAll) (s : ByteArray) (t : Int) (w : World) (hm : s.size ≤ maxLen) :
    Calls Try.prog 55 #[.string s, .int .i64 t] w fun e w' => ∃ c vf L, e = .returned (.tuple #[ag (cfl c vf), .bool (rgB s t)]) ∧ Oc w w' vf L ∧ L.map Prod.fst = c.fs ∧ (rgB s t = true → rcO s = some c) ∧ Below w.heap.size w w' := by
  have HR : Hid (∀ w, Calls Try.prog 73 #[.string s] w (RcP s w)) := fun w => readConfig_of hco s w hm
  have hM := Mo.nil w
  unfold maxLen at hm
  go_enter Try.func55, Try.ntmps55
  repeat' (first | (go_big_may; first | (refine v_alloc rfl zer_config rfl ?_; intro u za hN; replace hM := hM.new hN; clear hN)) | go_values | go_skip | go_guarded | go_step | go_upon | (simp only [Int.not_lt, Int.not_le] at *; go_simp))
  refine (HR.out _).mono ?_
  rintro e u1 hp
  rcases rc_cases hp with ⟨z, hz, hn, rfl, hb⟩ | ⟨c, vf, L, hs, rfl, ho, he, hb⟩
  · replace hM := hM.call hb
    have e1 : (z == 0) = false := by simpa using hz
    clear hz hb
    repeat' (first | (go_big_may; first | (refine v_alloc rfl zer_config rfl ?_; intro u zb hN; replace hM := hM.new hN; clear hN) | (refine v_fill rfl rfl row_config rfl rfl hM.at0 (cfl_vs noC rfl) rfl ?_; intro u hv hc; replace hM := hM.put0 hc hv; clear hv hc) | (refine v_load rfl rfl row_config rfl hM.at0 (Nat.le_refl _) (cut_all rfl) ?_) | (refine v_fill rfl rfl row_config rfl rfl hM.at1 (cfl_vs noC rfl) rfl ?_; intro u hv hc; replace hM := hM.put1 hc hv; clear hv hc)) | go_values | go_skip | go_guarded | go_step | go_upon | (simp only [Int.not_lt, Int.not_le] at *; go_simp))
    exact bodyPost_ret (v := .tuple #[ag (cfl noC nilS), .bool false]) (ret_2 rfl rfl (ld_var row_config hM.at1 rfl) rfl) rfl ⟨noC, nilS, [], by rw [rgB_none hn], Oc.nil _ _, rfl, (fun h => by rw [rgB_none hn] at h; cases h), hM.below⟩
  · have h1 := ho.one
    replace hM := hM.take hb ho
    clear hb ho hp
    cases h2 : decide ((s.size : Int) = t)
    all_goals
      have h3 : ((s.size : Int) == t) = _ := h2
      repeat' (first | (go_big_may; first | (refine v_alloc rfl zer_config rfl ?_; intro u zb hN; replace hM := hM.new hN; clear hN) | (refine v_fill rfl rfl row_config rfl rfl hM.at0 (cfl_vs c h1) rfl ?_; intro u hv hc; replace hM := hM.put0 hc hv; clear hv hc) | (refine v_load rfl rfl row_config rfl hM.at0 (Nat.le_refl _) (cut_all rfl) ?_) | (refine v_fill rfl rfl row_config rfl rfl hM.at1 (cfl_vs c h1) rfl ?_; intro u hv hc; replace hM := hM.put1 hc hv; clear hv hc)) | go_values | go_skip | go_guarded | go_step | go_upon | (simp only [Int.not_lt, Int.not_le] at *; go_simp))
      refine bodyPost_ret (ret_2 rfl rfl (ld_var row_config hM.at1 rfl) rfl) rfl ⟨c, vf, L, by rw [rgB_some hs, h2]; rfl, hM.own, he, fun _ => hs, hM.below⟩
set_option maxHeartbeats 1000000 in
theorem readText_greet (s : ByteArray) (w : World) (hm : s.size ≤ maxLen) :
    Calls Try.prog 56 #[.string s] w fun e w' => e = .returned (.tuple #[.string (rdT s), .bool (rdC s == 0)]) ∧ Below w.heap.size w w' := by
  have HR : Hid (∀ w, Calls Try.prog 74 #[.string s] w fun e w' => e = .returned (.tuple #[.string (rdT s), .int .i64 (rdC s)]) ∧ Below w.heap.size w w') := fun w => readText_any s w hm
  cases hz : (rdC s == 0)
  all_goals
    generalize rdC s = z at *
    go_enter Try.func56, Try.ntmps56
    go_wp2_with fail
    refine (HR.out _).mono ?_
    rintro e u1 ⟨rfl, hb⟩
    go_wp2
    go_ret2
    exact ⟨rfl, hb⟩
end Go.Proofs.Ytonheibhbilhhaa.greet
