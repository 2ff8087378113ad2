/- HubPath: by power, a plug, a reset and a tick a port is on and tells both changes; pulled, it is off and tells that, too. -/
import Derived.Test.YtdnmjeiljpdmcaaHubV
import Derived.Test.YtdnmjeiljpdmcaaHubO
namespace Go.Proofs.Ytdnmjeiljpdmcaa.hubPath
open Go Go.RowKit Go.PlainAid Go.Proofs.Ytdnmjeiljpdmcaa.hub
open Go.Proofs.Ytdnmjeiljpdmcaa.lane (nums)
open Go.Proofs.Ytdnmjeiljpdmcaa.setup (wrT good)
set_option linter.unusedVariables false
set_option linter.unusedSimpArgs false
set_option maxRecDepth 100000

/-- an ask about the port k of a hub of which it alone has something -/
theorem ctl_on {n : Int} {k : Nat} (h1 : 1 ≤ (k : Int)) (h2 : (k : Int) ≤ n) (h3 : n ≤ 15) {s c v : Int} (hr : rgt s c = true) (hv : 0 ≤ v ∧ v ≤ 31) (u : World) :
    Calls Try.prog 15 #[ag (oneP n k s c), .string (wrT 9 v k 0)] u fun e w' => e = .returned (.tuple #[ag (oneP n k (dnS true v s) c), .string ⟨#[]⟩, .int .i64 (dnE true v s)]) ∧ Below u.heap.size u w' := by
  have hk : k < 16 := by omega
  have hok := oneP_ok h1 h2 h3 hr
  have hg : good 9 v k 0 = true := good_port (.inr ⟨.inl rfl, hv, rfl⟩) h1 (by omega)
  obtain ⟨hq, hz⟩ := asked_qs hg
  have := control_any (oneP n k s c) (wrT 9 v k 0) u hok.hb (by rw [hz]; unfold maxLen; omega)
  obtain ⟨e1, e2, e3⟩ := ctl_9 hok (k := 9) (v := v) (.inl rfl) (oneP_isP h1 h2 s c)
  unfold ctS at this
  rw [hq, e1, e2, e3, (oneP_at hk s c).1, (oneP_at hk s c).2, oneP_set hk] at this
  exact this
theorem ctl_st {n : Int} {k : Nat} (h1 : 1 ≤ (k : Int)) (h2 : (k : Int) ≤ n) (h3 : n ≤ 15) {s c : Int} (hr : rgt s c = true) (u : World) :
    Calls Try.prog 15 #[ag (oneP n k s c), .string (wrT 8 0 k 4)] u fun e w' => e = .returned (.tuple #[ag (oneP n k s c), .string (strOfNums [s % 256, s / 256, c % 256, c / 256]), .int .i64 0]) ∧ Below u.heap.size u w' := by
  have hk : k < 16 := by omega
  have hok := oneP_ok h1 h2 h3 hr
  have hg : good 8 0 k 4 = true := good_port (.inl ⟨rfl, rfl, rfl⟩) h1 (by omega)
  obtain ⟨hq, hz⟩ := asked_qs hg
  have := control_any (oneP n k s c) (wrT 8 0 k 4) u hok.hb (by rw [hz]; unfold maxLen; omega)
  obtain ⟨e1, e2, e3⟩ := ctl_8 hok (v := 0) (oneP_isP h1 h2 s c)
  unfold ctS at this
  rw [hq, e1, e2, e3, (oneP_at hk s c).1, (oneP_at hk s c).2] at this
  exact this
theorem plug_on {n : Int} {k : Nat} (h1 : 1 ≤ (k : Int)) (h2 : (k : Int) ≤ n) (h3 : n ≤ 15) {s c : Int} (hr : rgt s c = true) (hs : s ≠ 0) (t : Bool) (u : World) :
    Calls Try.prog 9 #[ag (oneP n k s c), .int .i64 (k : Int), .bool t] u fun e w' => e = .returned (.tuple #[ag (oneP n k (plgS s t) (plgC s c t)), .int .i64 0]) ∧ Below u.heap.size u w' := by
  have := plug_any (oneP n k s c) k t u (oneP_ok h1 h2 h3 hr).hb
  rw [(oneP_plug h1 h2 h3 hr hs t).1, (oneP_plug h1 h2 h3 hr hs t).2] at this
  exact this
theorem plug_no {n : Int} {k : Nat} (h1 : 1 ≤ (k : Int)) (h2 : (k : Int) ≤ n) (h3 : n ≤ 15) (t : Bool) (u : World) :
    Calls Try.prog 9 #[ag (oneP n k 0 0), .int .i64 (k : Int), .bool t] u fun e w' => e = .returned (.tuple #[ag (oneP n k 0 0), .int .i64 8]) ∧ Below u.heap.size u w' := by
  have := plug_any (oneP n k 0 0) k t u (oneP_ok h1 h2 h3 (by decide)).hb
  rw [(oneP_plug0 h1 h2 h3 t).1, (oneP_plug0 h1 h2 h3 t).2] at this
  exact this
theorem tick_on {n : Int} {k : Nat} (h1 : 1 ≤ (k : Int)) (h2 : (k : Int) ≤ n) (h3 : n ≤ 15) {s c : Int} (hr : rgt s c = true) (u : World) :
    Calls Try.prog 11 #[ag (oneP n k s c)] u fun e w' => e = .returned (.tuple #[ag (oneP n k (tS s) (tC s c)), .int .i64 0]) ∧ Below u.heap.size u w' := by
  have hok := oneP_ok h1 h2 h3 hr
  have := tick_any (oneP n k s c) u hok.hb
  rw [oneP_tick h1 h2 h3 hr, hok.chk] at this
  exact this
set_option maxHeartbeats 16000000 in
theorem walk (c p : Int) (hc : (Lit.int .i64 c).wf = true) (hp : (Lit.int .i64 p).wf = true) (w : World) : Calls Try.prog 7 #[.int .i64 c, .int .i64 p] w fun r w' => r = .returned (.bool true) ∧ Below w.heap.size w w' := by
  have hcb := bounds_i64 hc
  have HLv : Hid (∀ u, Calls Try.prog 19 #[] u fun e w' => e = .returned (.bool true) ∧ Below u.heap.size u w') := lives_any
  have HCk : Hid (∀ u, Calls Try.prog 13 #[ag (hub0 c)] u fun e w' => e = .returned (.int .i64 (chk (hub0 c))) ∧ Below u.heap.size u w') := fun u => check_any _ u (hub0_hb hcb.1 hcb.2)
  have HL0 : Hid ((hub0 c).length = 33) := hub0_len c
  have HC0 : Hid (cut (hub0 c) 0 33 = hub0 c) := cut_all HL0.out
  have HE0 : Hid (0 + 33 ≤ (hub0 c).length) := by show 0 + 33 ≤ _; rw [HL0.out]; omega
  have hbH := bld_H c
  have hM := Mm.nil w
  clear hcb hc hp
  have CALLS : Hid True := trivial
  by_cases hbad : ¬ (1 ≤ c ∧ c ≤ 15)
  · rw [hub0_chk hbad] at HCk
    clear hbad CALLS
    generalize hub0 c = F0 at *
    go_enter Try.func7, Try.ntmps7
    repeat' (first | (go_big_may; first | (refine a_build rfl rfl hbH (by simp [Act.eval]) ?_) | (refine a_alloc rfl zer_hub rfl ?_; intro u zh hN; replace hM := hM.new hN; clear hN) | (refine a_fill rfl rfl row_hub rfl rfl hM.at0 HL0.out rep_33 ?_; intro u hv hc; replace hM := hM.put0 hc hv; clear hv hc)) | go_values | go_skip | go_guarded | go_step | go_upon | (simp only [Int.not_lt, Int.not_le] at *; go_simp))
    refine (HLv.out _).mono ?_
    rintro r u ⟨rfl, hv⟩
    replace hM := hM.call hv
    clear hv
    repeat' (first | (go_big_may; first | (refine a_load rfl rfl row_hub rfl hM.at0 HE0.out HC0.out ?_)) | go_values | go_skip | go_guarded | go_step | go_upon | (simp only [Int.not_lt, Int.not_le] at *; go_simp))
    refine (HCk.out _).mono ?_
    rintro r u ⟨rfl, hv⟩
    replace hM := hM.call hv
    clear hv
    repeat' (first | go_values | go_skip | go_guarded | go_step | go_upon | (simp only [Int.not_lt, Int.not_le] at *; go_simp))
    refine (HLv.out _).mono ?_
    rintro r u ⟨rfl, hv⟩
    replace hM := hM.call hv
    clear hv
    repeat' (first | go_values | go_skip | go_guarded | go_step | go_upon | (simp only [Int.not_lt, Int.not_le] at *; go_simp))
    go_ret
    exact ⟨rfl, hM.below⟩
  have hgood : 1 ≤ c ∧ c ≤ 15 := by omega
  rw [(hub0_ok hgood.1 hgood.2).chk] at HCk
  by_cases hno : ¬ (1 ≤ p ∧ p ≤ c)
  · have hcase : decide (p < 1) = true ∨ decide (p < 1) = false ∧ decide (c < p) = true := by
      by_cases z : p < 1
      · left; simpa using z
      · right; simp; omega
    clear hbad hno hgood CALLS
    generalize hub0 c = F0 at *
    rcases hcase with d1 | ⟨d1, d2⟩
    all_goals
      go_enter Try.func7, Try.ntmps7
      repeat' (first | (go_big_may; first | (refine a_build rfl rfl hbH (by simp [Act.eval]) ?_) | (refine a_alloc rfl zer_hub rfl ?_; intro u zh hN; replace hM := hM.new hN; clear hN) | (refine a_fill rfl rfl row_hub rfl rfl hM.at0 HL0.out rep_33 ?_; intro u hv hc; replace hM := hM.put0 hc hv; clear hv hc)) | go_values | go_skip | go_guarded | go_step | go_upon | (simp only [Int.not_lt, Int.not_le] at *; go_simp))
      refine (HLv.out _).mono ?_
      rintro r u ⟨rfl, hv⟩
      replace hM := hM.call hv
      clear hv
      repeat' (first | (go_big_may; first | (refine a_load rfl rfl row_hub rfl hM.at0 HE0.out HC0.out ?_)) | go_values | go_skip | go_guarded | go_step | go_upon | (simp only [Int.not_lt, Int.not_le] at *; go_simp))
      refine (HCk.out _).mono ?_
      rintro r u ⟨rfl, hv⟩
      replace hM := hM.call hv
      clear hv
      repeat' (first | go_values | go_skip | go_guarded | go_step | go_upon | (simp only [Int.not_lt, Int.not_le] at *; go_simp))
      refine (HLv.out _).mono ?_
      rintro r u ⟨rfl, hv⟩
      replace hM := hM.call hv
      clear hv
      repeat' (first | go_values | go_skip | go_guarded | go_step | go_upon | (simp only [Int.not_lt, Int.not_le] at *; go_simp))
      go_ret
      exact ⟨rfl, hM.below⟩
  obtain ⟨k, rfl⟩ : ∃ k : Nat, p = (k : Int) := ⟨p.toNat, by omega⟩
  have h1 : 1 ≤ (k : Int) := by omega
  have h2 : (k : Int) ≤ c := by omega
  have h3 : c ≤ 15 := hgood.2
  have hk16 : k < 16 := by omega
  have hz0 : oneP c k 0 0 = hub0 c := oneP_zero hk16
  have q1 : Hid (∀ u : World, Calls Try.prog 9 #[ag (hub0 c), .int .i64 (k : Int), .bool true] u fun e w' => e = .returned (.tuple #[ag (hub0 c), .int .i64 8]) ∧ Below u.heap.size u w') := fun u => by
    have := plug_no h1 h2 h3 true u
    rw [hz0] at this; exact this
  have a1 : Hid (∀ u : World, Calls Try.prog 21 #[.int .i64 9, .int .i64 8, .int .i64 (k : Int), .int .i64 0] u fun e w' => e = .returned (.string (wrT 9 8 k 0)) ∧ Below u.heap.size u w') := fun u => asked_any 9 8 k 0 (by omega) u
  have a2 : Hid (∀ u : World, Calls Try.prog 21 #[.int .i64 9, .int .i64 4, .int .i64 (k : Int), .int .i64 0] u fun e w' => e = .returned (.string (wrT 9 4 k 0)) ∧ Below u.heap.size u w') := fun u => asked_any 9 4 k 0 (by omega) u
  have a3 : Hid (∀ u : World, Calls Try.prog 21 #[.int .i64 8, .int .i64 0, .int .i64 (k : Int), .int .i64 4] u fun e w' => e = .returned (.string (wrT 8 0 k 4)) ∧ Below u.heap.size u w') := fun u => asked_any 8 0 k 4 (by omega) u
  have q2 : Hid (∀ u : World, Calls Try.prog 15 #[ag (hub0 c), .string (wrT 9 8 k 0)] u fun e w' => e = .returned (.tuple #[ag (oneP c k 256 0), .string ⟨#[]⟩, .int .i64 0]) ∧ Below u.heap.size u w') := fun u => by
    have := ctl_on h1 h2 h3 (s := 0) (c := 0) (v := 8) (by decide) (by omega) u
    rw [hz0] at this; exact this
  have q3 : Hid (∀ u : World, Calls Try.prog 15 #[ag (oneP c k 256 0), .string (wrT 9 4 k 0)] u fun e w' => e = .returned (.tuple #[ag (oneP c k 256 0), .string ⟨#[]⟩, .int .i64 8]) ∧ Below u.heap.size u w') := fun u => ctl_on h1 h2 h3 (s := 256) (c := 0) (v := 4) (by decide) (by omega) u
  have q4 : Hid (∀ u : World, Calls Try.prog 9 #[ag (oneP c k 256 0), .int .i64 (k : Int), .bool true] u fun e w' => e = .returned (.tuple #[ag (oneP c k 257 1), .int .i64 0]) ∧ Below u.heap.size u w') := fun u => plug_on h1 h2 h3 (s := 256) (c := 0) (by decide) (by decide) true u
  have q5 : Hid (∀ u : World, Calls Try.prog 15 #[ag (oneP c k 257 1), .string (wrT 9 4 k 0)] u fun e w' => e = .returned (.tuple #[ag (oneP c k 273 1), .string ⟨#[]⟩, .int .i64 0]) ∧ Below u.heap.size u w') := fun u => ctl_on h1 h2 h3 (s := 257) (c := 1) (v := 4) (by decide) (by omega) u
  have q6 : Hid (∀ u : World, Calls Try.prog 11 #[ag (oneP c k 273 1)] u fun e w' => e = .returned (.tuple #[ag (oneP c k 259 17), .int .i64 0]) ∧ Below u.heap.size u w') := fun u => tick_on h1 h2 h3 (s := 273) (c := 1) (by decide) u
  have q7 : Hid (∀ u : World, Calls Try.prog 15 #[ag (oneP c k 259 17), .string (wrT 8 0 k 4)] u fun e w' => e = .returned (.tuple #[ag (oneP c k 259 17), .string ⟨#[3, 1, 17, 0]⟩, .int .i64 0]) ∧ Below u.heap.size u w') := fun u => ctl_st h1 h2 h3 (s := 259) (c := 17) (by decide) u
  have q8 : Hid (∀ u : World, Calls Try.prog 9 #[ag (oneP c k 259 17), .int .i64 (k : Int), .bool false] u fun e w' => e = .returned (.tuple #[ag (oneP c k 256 19), .int .i64 0]) ∧ Below u.heap.size u w') := fun u => plug_on h1 h2 h3 (s := 259) (c := 17) (by decide) (by decide) false u
  have q9 : Hid (∀ u : World, Calls Try.prog 15 #[ag (oneP c k 256 19), .string (wrT 8 0 k 4)] u fun e w' => e = .returned (.tuple #[ag (oneP c k 256 19), .string ⟨#[0, 1, 19, 0]⟩, .int .i64 0]) ∧ Below u.heap.size u w') := fun u => ctl_st h1 h2 h3 (s := 256) (c := 19) (by decide) u
  have d1 : decide ((k : Int) < 1) = false := by simp; omega
  have d2 : decide (c < (k : Int)) = false := by simp; omega
  have HL1 : Hid ((oneP c k 256 0).length = 33) := oneP_len _ _ _ _
  have HL2 : Hid ((oneP c k 257 1).length = 33) := oneP_len _ _ _ _
  have HL3 : Hid ((oneP c k 273 1).length = 33) := oneP_len _ _ _ _
  have HL4 : Hid ((oneP c k 259 17).length = 33) := oneP_len _ _ _ _
  have HL5 : Hid ((oneP c k 256 19).length = 33) := oneP_len _ _ _ _
  clear hbad hno hgood h1 h2 h3 hk16 hz0 CALLS
  generalize oneP c k 256 0 = F1 at *
  generalize oneP c k 257 1 = F2 at *
  generalize oneP c k 273 1 = F3 at *
  generalize oneP c k 259 17 = F4 at *
  generalize oneP c k 256 19 = F5 at *
  generalize hub0 c = F0 at *
  generalize wrT 9 8 k 0 = t1 at *
  generalize wrT 9 4 k 0 = t2 at *
  generalize wrT 8 0 k 4 = t3 at *
  have HC1 : Hid (cut F1 0 33 = F1) := cut_all HL1.out
  have HE1 : Hid (0 + 33 ≤ F1.length) := by show 0 + 33 ≤ _; rw [HL1.out]; omega
  have HC2 : Hid (cut F2 0 33 = F2) := cut_all HL2.out
  have HE2 : Hid (0 + 33 ≤ F2.length) := by show 0 + 33 ≤ _; rw [HL2.out]; omega
  have HC3 : Hid (cut F3 0 33 = F3) := cut_all HL3.out
  have HE3 : Hid (0 + 33 ≤ F3.length) := by show 0 + 33 ≤ _; rw [HL3.out]; omega
  have HC4 : Hid (cut F4 0 33 = F4) := cut_all HL4.out
  have HE4 : Hid (0 + 33 ≤ F4.length) := by show 0 + 33 ≤ _; rw [HL4.out]; omega
  have HC5 : Hid (cut F5 0 33 = F5) := cut_all HL5.out
  have HE5 : Hid (0 + 33 ≤ F5.length) := by show 0 + 33 ≤ _; rw [HL5.out]; omega
  go_enter Try.func7, Try.ntmps7
  repeat' (first | (go_big_may; first | (refine a_build rfl rfl hbH (by simp [Act.eval]) ?_) | (refine a_alloc rfl zer_hub rfl ?_; intro u zh hN; replace hM := hM.new hN; clear hN) | (refine a_fill rfl rfl row_hub rfl rfl hM.at0 HL0.out rep_33 ?_; intro u hv hc; replace hM := hM.put0 hc hv; clear hv hc)) | go_values | go_skip | go_guarded | go_step | go_upon | (simp only [Int.not_lt, Int.not_le] at *; go_simp))
  refine (HLv.out _).mono ?_
  rintro r u ⟨rfl, hv⟩
  replace hM := hM.call hv
  clear hv
  repeat' (first | (go_big_may; first | (refine a_load rfl rfl row_hub rfl hM.at0 HE0.out HC0.out ?_)) | go_values | go_skip | go_guarded | go_step | go_upon | (simp only [Int.not_lt, Int.not_le] at *; go_simp))
  refine (HCk.out _).mono ?_
  rintro r u ⟨rfl, hv⟩
  replace hM := hM.call hv
  clear hv
  repeat' (first | (go_big_may; first | (refine a_load rfl rfl row_hub rfl hM.at0 HE0.out HC0.out ?_)) | go_values | go_skip | go_guarded | go_step | go_upon | (simp only [Int.not_lt, Int.not_le] at *; go_simp))
  refine (q1.out _).mono ?_
  rintro r u ⟨rfl, hv⟩
  replace hM := hM.call hv
  clear hv
  repeat' (first | (go_big_may; first | (refine a_alloc rfl zer_hub rfl ?_; intro u z6 hN; replace hM := hM.new hN; clear hN) | (refine a_fill rfl rfl row_hub rfl rfl hM.at0 HL0.out rep_33 ?_; intro u hv hc; replace hM := hM.put0 hc hv; clear hv hc)) | go_values | go_skip | go_guarded | go_step | go_upon | (simp only [Int.not_lt, Int.not_le] at *; go_simp))
  replace hM := hM.tail
  go_simp
  refine reg.wp_abs (fun a0 => a0.tmps.size = 140 ∧ (∀ h, a0.tmps[1]'h = .int .i64 (k : Int)) ∧ (∀ h, a0.tmps[5]'h = .pointer (some ⟨zh, 0, none⟩))) ⟨rfl, fun _ => rfl, fun _ => rfl⟩ ?_
  rintro a0 ⟨hsz, s1, s5⟩ ha0
  refine reg.wp_region_E (S := fun W => Ls W [(zh, 26, F0)]) (E := fun i => i == 8) (by kernel_rfl) ?_
  replace hM := hM.drew
  refine reg.e_take (i := 0) (ag F0) rfl (by kernel_rfl) (by kernel_rfl) (by kernel_rfl) (by kernel_rfl) (fun _ _ _ h => h) (reg.wanted_none rfl) (hM.ls (by simp)) (fun W hW => ex_load rfl row_hub (by simp [go_sem, Act.put, hsz, s1, s5]) hW.at0 HE0.out HC0.out) ?_
  refine reg.e_take (i := 1) (.int .i64 (k : Int)) rfl (by kernel_rfl) (by kernel_rfl) (by kernel_rfl) (by kernel_rfl) (fun _ _ _ h => h) (reg.wanted_none rfl) (hM.ls (by simp)) (fun W hW => by simp [execOp, go_sem, Act.put, hsz, s1, s5]) ?_
  refine reg.e_one 2 (by kernel_rfl) rfl ?_
  refine reg.r_call (i := 2) 21 #[.int .i64 9, .int .i64 8, .int .i64 (k : Int), .int .i64 0] rfl (reg.wanted_none rfl) (by simp [execOp, go_sem, Act.put, hsz, s1, s5]) ((a1.out _).mono ?_)
  rintro re ru1 ⟨rfl, rhv⟩
  replace hM := hM.call rhv
  clear rhv
  refine ⟨_, rfl, hM.ls (by simp), ?_⟩
  refine reg.e_one 3 (by kernel_rfl) rfl ?_
  refine reg.r_call (i := 3) 15 #[ag F0, .string t1] rfl (reg.wanted_none rfl) (by simp [execOp, go_sem, Act.put, hsz, s1, s5]) ((q2.out _).mono ?_)
  rintro re ru2 ⟨rfl, rhv⟩
  replace hM := hM.call rhv
  clear rhv
  refine ⟨_, rfl, hM.ls (by simp), ?_⟩
  refine reg.e_take (i := 4) (.tuple #[ag F1, .string ⟨#[]⟩, .int .i64 0]) rfl (by kernel_rfl) (by kernel_rfl) (by kernel_rfl) (by kernel_rfl) (fun _ _ _ h => h) (reg.wanted_none rfl) (hM.ls (by simp)) (fun W hW => by simp [execOp, go_sem, Act.put, hsz, s1, s5]) ?_
  refine reg.e_take (i := 5) (ag F1) rfl (by kernel_rfl) (by kernel_rfl) (by kernel_rfl) (by kernel_rfl) (fun _ _ _ h => h) (reg.wanted_none rfl) (hM.ls (by simp)) (fun W hW => by simp [execOp, go_sem, Act.put, hsz, s1, s5]) ?_
  refine reg.e_take0 (i := 6) (.string ⟨#[]⟩) rfl (by kernel_rfl) (by kernel_rfl) (by kernel_rfl) rfl (fun _ _ _ h => h) (reg.wanted_none rfl) (hM.ls (by simp)) (fun W => by simp [execOp, go_sem, Act.put, hsz, s1, s5]) ?_
  refine reg.e_take0 (i := 7) (.int .i64 0) rfl (by kernel_rfl) (by kernel_rfl) (by kernel_rfl) rfl (fun _ _ _ h => h) (reg.wanted_none rfl) (hM.ls (by simp)) (fun W => by simp [execOp, go_sem, Act.put, hsz, s1, s5]) ?_
  refine reg.e_leave 8 (by kernel_rfl) rfl ?_
  refine r_fill (i := 8) rfl (reg.wanted_none rfl) rfl row_hub (by simp [go_sem, Act.put, hsz, s1, s5]) (by simp [go_sem, Act.put, hsz, s1, s5]) hM.at0 HL1.out HL0.out ?_
  intro ru3 rhv rhc
  replace hM := hM.put0 rhc rhv
  clear rhc rhv
  refine reg.t_take (i := 9) (.string ⟨#[]⟩) rfl (by kernel_rfl) (by kernel_rfl) (by kernel_rfl) (fun _ _ _ h => h) (reg.wanted_none rfl) (fun W => by simp [execOp, go_sem, Act.put, hsz, s1, s5]) ?_
  refine reg.t_take (i := 10) (.int .i64 0) rfl (by kernel_rfl) (by kernel_rfl) (by kernel_rfl) (fun _ _ _ h => h) (reg.wanted_none rfl) (fun W => by simp [execOp, go_sem, Act.put, hsz, s1, s5]) ?_
  refine wpAnyH_done (by kernel_rfl) ?_ _
  subst ha0
  clear hsz s1 s5
  go_simp
  repeat' (first | go_values | go_skip | go_guarded | go_step | go_upon | (simp only [Int.not_lt, Int.not_le] at *; go_simp))
  go_simp
  go_cut [10, 11, 12] from 55 to 63 (fun pv sv ev wx => ∃ za : Nat, pv = .pointer (some ⟨za, 0, none⟩) ∧ sv = .string ⟨#[]⟩ ∧ ev = .int .i64 8 ∧ Hid (Mm w wx [(zh, 26, F1)]))
  case first =>
    refine reg.wp_abs (fun a0 => a0.tmps.size = 140 ∧ (∀ h, a0.tmps[1]'h = .int .i64 (k : Int)) ∧ (∀ h, a0.tmps[5]'h = .pointer (some ⟨zh, 0, none⟩))) ⟨rfl, fun _ => rfl, fun _ => rfl⟩ ?_
    rintro a0 ⟨hsz, s1, s5⟩ ha0
    refine reg.wp_region_E (S := fun W => Ls W [(zh, 26, F1)]) (E := fun _ => false) (by kernel_rfl) ?_
    replace hM := hM.drew
    refine reg.e_take (i := 0) (ag F1) rfl (by kernel_rfl) (by kernel_rfl) (by kernel_rfl) (by kernel_rfl) (fun _ _ _ h => h) (reg.wanted_none rfl) (hM.ls (by simp)) (fun W hW => ex_load rfl row_hub (by simp [go_sem, Act.put, hsz, s1, s5]) hW.at0 HE1.out HC1.out) ?_
    refine reg.e_take (i := 1) (.int .i64 (k : Int)) rfl (by kernel_rfl) (by kernel_rfl) (by kernel_rfl) (by kernel_rfl) (fun _ _ _ h => h) (reg.wanted_none rfl) (hM.ls (by simp)) (fun W hW => by simp [execOp, go_sem, Act.put, hsz, s1, s5]) ?_
    refine reg.e_two 2 8 (by kernel_rfl) rfl rfl ?_ ?_
    · refine reg.r_call (i := 2) 21 #[.int .i64 9, .int .i64 4, .int .i64 (k : Int), .int .i64 0] rfl (reg.wanted_none rfl) (by simp [execOp, go_sem, Act.put, hsz, s1, s5]) ((a2.out _).mono ?_)
      rintro re ru1 ⟨rfl, rhv⟩
      replace hM := hM.call rhv
      clear rhv
      refine ⟨_, rfl, hM.ls (by simp), ?_⟩
      refine reg.e_two 3 8 (by kernel_rfl) rfl rfl ?_ ?_
      · refine reg.r_call (i := 3) 15 #[ag F1, .string t2] rfl (reg.wanted_none rfl) (by simp [execOp, go_sem, Act.put, hsz, s1, s5]) ((q3.out _).mono ?_)
        rintro re ru2 ⟨rfl, rhv⟩
        replace hM := hM.call rhv
        clear rhv
        refine ⟨_, rfl, hM.ls (by simp), ?_⟩
        refine reg.e_take (i := 4) (.tuple #[ag F1, .string ⟨#[]⟩, .int .i64 8]) rfl (by kernel_rfl) (by kernel_rfl) (by kernel_rfl) (by kernel_rfl) (fun _ _ _ h => h) (reg.wanted_none rfl) (hM.ls (by simp)) (fun W hW => by simp [execOp, go_sem, Act.put, hsz, s1, s5]) ?_
        refine reg.e_take (i := 5) (ag F1) rfl (by kernel_rfl) (by kernel_rfl) (by kernel_rfl) (by kernel_rfl) (fun _ _ _ h => h) (reg.wanted_none rfl) (hM.ls (by simp)) (fun W hW => by simp [execOp, go_sem, Act.put, hsz, s1, s5]) ?_
        refine reg.e_take (i := 6) (.string ⟨#[]⟩) rfl (by kernel_rfl) (by kernel_rfl) (by kernel_rfl) (by kernel_rfl) (fun _ _ _ h => h) (reg.wanted_none rfl) (hM.ls (by simp)) (fun W hW => by simp [execOp, go_sem, Act.put, hsz, s1, s5]) ?_
        refine reg.e_take (i := 7) (.int .i64 8) rfl (by kernel_rfl) (by kernel_rfl) (by kernel_rfl) (by kernel_rfl) (fun _ _ _ h => h) (reg.wanted_none rfl) (hM.ls (by simp)) (fun W hW => by simp [execOp, go_sem, Act.put, hsz, s1, s5]) ?_
        refine reg.e_one 8 (by kernel_rfl) rfl ?_
        refine r_alloc (i := 8) rfl (reg.wanted_none rfl) rfl zer_hub ?_
        intro ru3 za rhn
        replace hM := hM.new rhn
        clear rhn
        refine ⟨hM.ls (by simp), ?_⟩
        refine reg.e_one 9 (by kernel_rfl) rfl ?_
        refine r_fill (i := 9) rfl (reg.wanted_none rfl) rfl row_hub (by simp [go_sem, Act.put, hsz, s1, s5]) (by simp [go_sem, Act.put, hsz, s1, s5]) hM.at0 HL1.out rep_33 ?_
        intro ru4 rhv rhc
        replace hM := hM.put0 rhc rhv
        clear rhc rhv
        refine ⟨hM.ls (by simp), ?_⟩
        refine reg.e_take (i := 10) (.string ⟨#[]⟩) rfl (by kernel_rfl) (by kernel_rfl) (by kernel_rfl) (by kernel_rfl) (fun _ _ _ h => h) (reg.wanted_none rfl) (hM.ls (by simp)) (fun W hW => by simp [execOp, go_sem, Act.put, hsz, s1, s5]) ?_
        refine reg.e_take (i := 11) (.int .i64 8) rfl (by kernel_rfl) (by kernel_rfl) (by kernel_rfl) (by kernel_rfl) (fun _ _ _ h => h) (reg.wanted_none rfl) (hM.ls (by simp)) (fun W hW => by simp [execOp, go_sem, Act.put, hsz, s1, s5]) ?_
        refine reg.e_done (by kernel_rfl) ?_ _
        subst ha0
        clear hsz s1 s5
        go_simp
        repeat' (first | go_values | go_skip | go_guarded | go_step | go_upon | (simp only [Int.not_lt, Int.not_le] at *; go_simp))
        go_meet
        case rel => exact ⟨za, rfl, rfl, rfl, hM.tail⟩
      · refine r_alloc (i := 8) rfl (reg.wanted_none rfl) rfl zer_hub ?_
        intro ru5 za rhn
        replace hM := hM.new rhn
        clear rhn
        refine ⟨hM.ls (by simp), ?_⟩
        refine reg.e_one 3 (by kernel_rfl) rfl ?_
        refine reg.r_call (i := 3) 15 #[ag F1, .string t2] rfl (reg.wanted_none rfl) (by simp [execOp, go_sem, Act.put, hsz, s1, s5]) ((q3.out _).mono ?_)
        rintro re ru6 ⟨rfl, rhv⟩
        replace hM := hM.call rhv
        clear rhv
        refine ⟨_, rfl, hM.ls (by simp), ?_⟩
        refine reg.e_take (i := 4) (.tuple #[ag F1, .string ⟨#[]⟩, .int .i64 8]) rfl (by kernel_rfl) (by kernel_rfl) (by kernel_rfl) (by kernel_rfl) (fun _ _ _ h => h) (reg.wanted_none rfl) (hM.ls (by simp)) (fun W hW => by simp [execOp, go_sem, Act.put, hsz, s1, s5]) ?_
        refine reg.e_take (i := 5) (ag F1) rfl (by kernel_rfl) (by kernel_rfl) (by kernel_rfl) (by kernel_rfl) (fun _ _ _ h => h) (reg.wanted_none rfl) (hM.ls (by simp)) (fun W hW => by simp [execOp, go_sem, Act.put, hsz, s1, s5]) ?_
        refine reg.e_take (i := 6) (.string ⟨#[]⟩) rfl (by kernel_rfl) (by kernel_rfl) (by kernel_rfl) (by kernel_rfl) (fun _ _ _ h => h) (reg.wanted_none rfl) (hM.ls (by simp)) (fun W hW => by simp [execOp, go_sem, Act.put, hsz, s1, s5]) ?_
        refine reg.e_take (i := 7) (.int .i64 8) rfl (by kernel_rfl) (by kernel_rfl) (by kernel_rfl) (by kernel_rfl) (fun _ _ _ h => h) (reg.wanted_none rfl) (hM.ls (by simp)) (fun W hW => by simp [execOp, go_sem, Act.put, hsz, s1, s5]) ?_
        refine reg.e_one 9 (by kernel_rfl) rfl ?_
        refine r_fill (i := 9) rfl (reg.wanted_none rfl) rfl row_hub (by simp [go_sem, Act.put, hsz, s1, s5]) (by simp [go_sem, Act.put, hsz, s1, s5]) hM.at0 HL1.out rep_33 ?_
        intro ru7 rhv rhc
        replace hM := hM.put0 rhc rhv
        clear rhc rhv
        refine ⟨hM.ls (by simp), ?_⟩
        refine reg.e_take (i := 10) (.string ⟨#[]⟩) rfl (by kernel_rfl) (by kernel_rfl) (by kernel_rfl) (by kernel_rfl) (fun _ _ _ h => h) (reg.wanted_none rfl) (hM.ls (by simp)) (fun W hW => by simp [execOp, go_sem, Act.put, hsz, s1, s5]) ?_
        refine reg.e_take (i := 11) (.int .i64 8) rfl (by kernel_rfl) (by kernel_rfl) (by kernel_rfl) (by kernel_rfl) (fun _ _ _ h => h) (reg.wanted_none rfl) (hM.ls (by simp)) (fun W hW => by simp [execOp, go_sem, Act.put, hsz, s1, s5]) ?_
        refine reg.e_done (by kernel_rfl) ?_ _
        subst ha0
        clear hsz s1 s5
        go_simp
        repeat' (first | go_values | go_skip | go_guarded | go_step | go_upon | (simp only [Int.not_lt, Int.not_le] at *; go_simp))
        go_meet
        case rel => exact ⟨za, rfl, rfl, rfl, hM.tail⟩
    · refine r_alloc (i := 8) rfl (reg.wanted_none rfl) rfl zer_hub ?_
      intro ru8 za rhn
      replace hM := hM.new rhn
      clear rhn
      refine ⟨hM.ls (by simp), ?_⟩
      refine reg.e_one 2 (by kernel_rfl) rfl ?_
      refine reg.r_call (i := 2) 21 #[.int .i64 9, .int .i64 4, .int .i64 (k : Int), .int .i64 0] rfl (reg.wanted_none rfl) (by simp [execOp, go_sem, Act.put, hsz, s1, s5]) ((a2.out _).mono ?_)
      rintro re ru9 ⟨rfl, rhv⟩
      replace hM := hM.call rhv
      clear rhv
      refine ⟨_, rfl, hM.ls (by simp), ?_⟩
      refine reg.e_one 3 (by kernel_rfl) rfl ?_
      refine reg.r_call (i := 3) 15 #[ag F1, .string t2] rfl (reg.wanted_none rfl) (by simp [execOp, go_sem, Act.put, hsz, s1, s5]) ((q3.out _).mono ?_)
      rintro re ru10 ⟨rfl, rhv⟩
      replace hM := hM.call rhv
      clear rhv
      refine ⟨_, rfl, hM.ls (by simp), ?_⟩
      refine reg.e_take (i := 4) (.tuple #[ag F1, .string ⟨#[]⟩, .int .i64 8]) rfl (by kernel_rfl) (by kernel_rfl) (by kernel_rfl) (by kernel_rfl) (fun _ _ _ h => h) (reg.wanted_none rfl) (hM.ls (by simp)) (fun W hW => by simp [execOp, go_sem, Act.put, hsz, s1, s5]) ?_
      refine reg.e_take (i := 5) (ag F1) rfl (by kernel_rfl) (by kernel_rfl) (by kernel_rfl) (by kernel_rfl) (fun _ _ _ h => h) (reg.wanted_none rfl) (hM.ls (by simp)) (fun W hW => by simp [execOp, go_sem, Act.put, hsz, s1, s5]) ?_
      refine reg.e_take (i := 6) (.string ⟨#[]⟩) rfl (by kernel_rfl) (by kernel_rfl) (by kernel_rfl) (by kernel_rfl) (fun _ _ _ h => h) (reg.wanted_none rfl) (hM.ls (by simp)) (fun W hW => by simp [execOp, go_sem, Act.put, hsz, s1, s5]) ?_
      refine reg.e_take (i := 7) (.int .i64 8) rfl (by kernel_rfl) (by kernel_rfl) (by kernel_rfl) (by kernel_rfl) (fun _ _ _ h => h) (reg.wanted_none rfl) (hM.ls (by simp)) (fun W hW => by simp [execOp, go_sem, Act.put, hsz, s1, s5]) ?_
      refine reg.e_one 9 (by kernel_rfl) rfl ?_
      refine r_fill (i := 9) rfl (reg.wanted_none rfl) rfl row_hub (by simp [go_sem, Act.put, hsz, s1, s5]) (by simp [go_sem, Act.put, hsz, s1, s5]) hM.at0 HL1.out rep_33 ?_
      intro ru11 rhv rhc
      replace hM := hM.put0 rhc rhv
      clear rhc rhv
      refine ⟨hM.ls (by simp), ?_⟩
      refine reg.e_take (i := 10) (.string ⟨#[]⟩) rfl (by kernel_rfl) (by kernel_rfl) (by kernel_rfl) (by kernel_rfl) (fun _ _ _ h => h) (reg.wanted_none rfl) (hM.ls (by simp)) (fun W hW => by simp [execOp, go_sem, Act.put, hsz, s1, s5]) ?_
      refine reg.e_take (i := 11) (.int .i64 8) rfl (by kernel_rfl) (by kernel_rfl) (by kernel_rfl) (by kernel_rfl) (fun _ _ _ h => h) (reg.wanted_none rfl) (hM.ls (by simp)) (fun W hW => by simp [execOp, go_sem, Act.put, hsz, s1, s5]) ?_
      refine reg.e_done (by kernel_rfl) ?_ _
      subst ha0
      clear hsz s1 s5
      go_simp
      repeat' (first | go_values | go_skip | go_guarded | go_step | go_upon | (simp only [Int.not_lt, Int.not_le] at *; go_simp))
      go_meet
      case rel => exact ⟨za, rfl, rfl, rfl, hM.tail⟩
  case rest =>
  obtain ⟨za, rfl, rfl, rfl, HX⟩ := hcut
  rename World => ux
  replace hM := HX.out
  clear HX
  repeat' (first | (go_big_may; first | (refine a_load rfl rfl row_hub rfl hM.at0 HE1.out HC1.out ?_)) | go_values | go_skip | go_guarded | go_step | go_upon | (simp only [Int.not_lt, Int.not_le] at *; go_simp))
  refine (q4.out _).mono ?_
  rintro r u ⟨rfl, hv⟩
  replace hM := hM.call hv
  clear hv
  repeat' (first | (go_big_may; first | (refine a_fill rfl rfl row_hub rfl rfl hM.at0 HL2.out HL1.out ?_; intro u hv hc; replace hM := hM.put0 hc hv; clear hv hc)) | go_values | go_skip | go_guarded | go_step | go_upon | (simp only [Int.not_lt, Int.not_le] at *; go_simp))
  go_simp
  refine reg.wp_abs (fun a0 => a0.tmps.size = 140 ∧ (∀ h, a0.tmps[1]'h = .int .i64 (k : Int)) ∧ (∀ h, a0.tmps[5]'h = .pointer (some ⟨zh, 0, none⟩))) ⟨rfl, fun _ => rfl, fun _ => rfl⟩ ?_
  rintro a0 ⟨hsz, s1, s5⟩ ha0
  refine reg.wp_region_E (S := fun W => Ls W [(zh, 26, F2)]) (E := fun i => i == 8) (by kernel_rfl) ?_
  replace hM := hM.drew
  refine reg.e_take (i := 0) (ag F2) rfl (by kernel_rfl) (by kernel_rfl) (by kernel_rfl) (by kernel_rfl) (fun _ _ _ h => h) (reg.wanted_none rfl) (hM.ls (by simp)) (fun W hW => ex_load rfl row_hub (by simp [go_sem, Act.put, hsz, s1, s5]) hW.at0 HE2.out HC2.out) ?_
  refine reg.e_take (i := 1) (.int .i64 (k : Int)) rfl (by kernel_rfl) (by kernel_rfl) (by kernel_rfl) (by kernel_rfl) (fun _ _ _ h => h) (reg.wanted_none rfl) (hM.ls (by simp)) (fun W hW => by simp [execOp, go_sem, Act.put, hsz, s1, s5]) ?_
  refine reg.e_one 2 (by kernel_rfl) rfl ?_
  refine reg.r_call (i := 2) 21 #[.int .i64 9, .int .i64 4, .int .i64 (k : Int), .int .i64 0] rfl (reg.wanted_none rfl) (by simp [execOp, go_sem, Act.put, hsz, s1, s5]) ((a2.out _).mono ?_)
  rintro re ru1 ⟨rfl, rhv⟩
  replace hM := hM.call rhv
  clear rhv
  refine ⟨_, rfl, hM.ls (by simp), ?_⟩
  refine reg.e_one 3 (by kernel_rfl) rfl ?_
  refine reg.r_call (i := 3) 15 #[ag F2, .string t2] rfl (reg.wanted_none rfl) (by simp [execOp, go_sem, Act.put, hsz, s1, s5]) ((q5.out _).mono ?_)
  rintro re ru2 ⟨rfl, rhv⟩
  replace hM := hM.call rhv
  clear rhv
  refine ⟨_, rfl, hM.ls (by simp), ?_⟩
  refine reg.e_take (i := 4) (.tuple #[ag F3, .string ⟨#[]⟩, .int .i64 0]) rfl (by kernel_rfl) (by kernel_rfl) (by kernel_rfl) (by kernel_rfl) (fun _ _ _ h => h) (reg.wanted_none rfl) (hM.ls (by simp)) (fun W hW => by simp [execOp, go_sem, Act.put, hsz, s1, s5]) ?_
  refine reg.e_take (i := 5) (ag F3) rfl (by kernel_rfl) (by kernel_rfl) (by kernel_rfl) (by kernel_rfl) (fun _ _ _ h => h) (reg.wanted_none rfl) (hM.ls (by simp)) (fun W hW => by simp [execOp, go_sem, Act.put, hsz, s1, s5]) ?_
  refine reg.e_take0 (i := 6) (.string ⟨#[]⟩) rfl (by kernel_rfl) (by kernel_rfl) (by kernel_rfl) rfl (fun _ _ _ h => h) (reg.wanted_none rfl) (hM.ls (by simp)) (fun W => by simp [execOp, go_sem, Act.put, hsz, s1, s5]) ?_
  refine reg.e_take0 (i := 7) (.int .i64 0) rfl (by kernel_rfl) (by kernel_rfl) (by kernel_rfl) rfl (fun _ _ _ h => h) (reg.wanted_none rfl) (hM.ls (by simp)) (fun W => by simp [execOp, go_sem, Act.put, hsz, s1, s5]) ?_
  refine reg.e_leave 8 (by kernel_rfl) rfl ?_
  refine r_fill (i := 8) rfl (reg.wanted_none rfl) rfl row_hub (by simp [go_sem, Act.put, hsz, s1, s5]) (by simp [go_sem, Act.put, hsz, s1, s5]) hM.at0 HL3.out HL2.out ?_
  intro ru3 rhv rhc
  replace hM := hM.put0 rhc rhv
  clear rhc rhv
  refine reg.t_take (i := 9) (.string ⟨#[]⟩) rfl (by kernel_rfl) (by kernel_rfl) (by kernel_rfl) (fun _ _ _ h => h) (reg.wanted_none rfl) (fun W => by simp [execOp, go_sem, Act.put, hsz, s1, s5]) ?_
  refine reg.t_take (i := 10) (.int .i64 0) rfl (by kernel_rfl) (by kernel_rfl) (by kernel_rfl) (fun _ _ _ h => h) (reg.wanted_none rfl) (fun W => by simp [execOp, go_sem, Act.put, hsz, s1, s5]) ?_
  refine wpAnyH_done (by kernel_rfl) ?_ _
  subst ha0
  clear hsz s1 s5
  go_simp
  repeat' (first | (go_big_may; first | (refine a_load rfl rfl row_hub rfl hM.at0 HE3.out HC3.out ?_)) | go_values | go_skip | go_guarded | go_step | go_upon | (simp only [Int.not_lt, Int.not_le] at *; go_simp))
  refine (q6.out _).mono ?_
  rintro r u ⟨rfl, hv⟩
  replace hM := hM.call hv
  clear hv
  repeat' (first | (go_big_may; first | (refine a_fill rfl rfl row_hub rfl rfl hM.at0 HL4.out HL3.out ?_; intro u hv hc; replace hM := hM.put0 hc hv; clear hv hc)) | go_values | go_skip | go_guarded | go_step | go_upon | (simp only [Int.not_lt, Int.not_le] at *; go_simp))
  go_simp
  go_cut [17, 18, 19] from 82 to 90 (fun pv sv ev wx => ∃ za : Nat, pv = .pointer (some ⟨za, 0, none⟩) ∧ sv = .string ⟨#[3, 1, 17, 0]⟩ ∧ ev = .int .i64 0 ∧ Hid (Mm w wx [(zh, 26, F4)]))
  case first =>
    refine reg.wp_abs (fun a0 => a0.tmps.size = 140 ∧ (∀ h, a0.tmps[1]'h = .int .i64 (k : Int)) ∧ (∀ h, a0.tmps[5]'h = .pointer (some ⟨zh, 0, none⟩))) ⟨rfl, fun _ => rfl, fun _ => rfl⟩ ?_
    rintro a0 ⟨hsz, s1, s5⟩ ha0
    refine reg.wp_region_E (S := fun W => Ls W [(zh, 26, F4)]) (E := fun _ => false) (by kernel_rfl) ?_
    replace hM := hM.drew
    refine reg.e_take (i := 0) (ag F4) rfl (by kernel_rfl) (by kernel_rfl) (by kernel_rfl) (by kernel_rfl) (fun _ _ _ h => h) (reg.wanted_none rfl) (hM.ls (by simp)) (fun W hW => ex_load rfl row_hub (by simp [go_sem, Act.put, hsz, s1, s5]) hW.at0 HE4.out HC4.out) ?_
    refine reg.e_take (i := 1) (.int .i64 (k : Int)) rfl (by kernel_rfl) (by kernel_rfl) (by kernel_rfl) (by kernel_rfl) (fun _ _ _ h => h) (reg.wanted_none rfl) (hM.ls (by simp)) (fun W hW => by simp [execOp, go_sem, Act.put, hsz, s1, s5]) ?_
    refine reg.e_two 2 8 (by kernel_rfl) rfl rfl ?_ ?_
    · refine reg.r_call (i := 2) 21 #[.int .i64 8, .int .i64 0, .int .i64 (k : Int), .int .i64 4] rfl (reg.wanted_none rfl) (by simp [execOp, go_sem, Act.put, hsz, s1, s5]) ((a3.out _).mono ?_)
      rintro re ru1 ⟨rfl, rhv⟩
      replace hM := hM.call rhv
      clear rhv
      refine ⟨_, rfl, hM.ls (by simp), ?_⟩
      refine reg.e_two 3 8 (by kernel_rfl) rfl rfl ?_ ?_
      · refine reg.r_call (i := 3) 15 #[ag F4, .string t3] rfl (reg.wanted_none rfl) (by simp [execOp, go_sem, Act.put, hsz, s1, s5]) ((q7.out _).mono ?_)
        rintro re ru2 ⟨rfl, rhv⟩
        replace hM := hM.call rhv
        clear rhv
        refine ⟨_, rfl, hM.ls (by simp), ?_⟩
        refine reg.e_take (i := 4) (.tuple #[ag F4, .string ⟨#[3, 1, 17, 0]⟩, .int .i64 0]) rfl (by kernel_rfl) (by kernel_rfl) (by kernel_rfl) (by kernel_rfl) (fun _ _ _ h => h) (reg.wanted_none rfl) (hM.ls (by simp)) (fun W hW => by simp [execOp, go_sem, Act.put, hsz, s1, s5]) ?_
        refine reg.e_take (i := 5) (ag F4) rfl (by kernel_rfl) (by kernel_rfl) (by kernel_rfl) (by kernel_rfl) (fun _ _ _ h => h) (reg.wanted_none rfl) (hM.ls (by simp)) (fun W hW => by simp [execOp, go_sem, Act.put, hsz, s1, s5]) ?_
        refine reg.e_take (i := 6) (.string ⟨#[3, 1, 17, 0]⟩) rfl (by kernel_rfl) (by kernel_rfl) (by kernel_rfl) (by kernel_rfl) (fun _ _ _ h => h) (reg.wanted_none rfl) (hM.ls (by simp)) (fun W hW => by simp [execOp, go_sem, Act.put, hsz, s1, s5]) ?_
        refine reg.e_take (i := 7) (.int .i64 0) rfl (by kernel_rfl) (by kernel_rfl) (by kernel_rfl) (by kernel_rfl) (fun _ _ _ h => h) (reg.wanted_none rfl) (hM.ls (by simp)) (fun W hW => by simp [execOp, go_sem, Act.put, hsz, s1, s5]) ?_
        refine reg.e_one 8 (by kernel_rfl) rfl ?_
        refine r_alloc (i := 8) rfl (reg.wanted_none rfl) rfl zer_hub ?_
        intro ru3 za rhn
        replace hM := hM.new rhn
        clear rhn
        refine ⟨hM.ls (by simp), ?_⟩
        refine reg.e_one 9 (by kernel_rfl) rfl ?_
        refine r_fill (i := 9) rfl (reg.wanted_none rfl) rfl row_hub (by simp [go_sem, Act.put, hsz, s1, s5]) (by simp [go_sem, Act.put, hsz, s1, s5]) hM.at0 HL4.out rep_33 ?_
        intro ru4 rhv rhc
        replace hM := hM.put0 rhc rhv
        clear rhc rhv
        refine ⟨hM.ls (by simp), ?_⟩
        refine reg.e_take (i := 10) (.string ⟨#[3, 1, 17, 0]⟩) rfl (by kernel_rfl) (by kernel_rfl) (by kernel_rfl) (by kernel_rfl) (fun _ _ _ h => h) (reg.wanted_none rfl) (hM.ls (by simp)) (fun W hW => by simp [execOp, go_sem, Act.put, hsz, s1, s5]) ?_
        refine reg.e_take (i := 11) (.int .i64 0) rfl (by kernel_rfl) (by kernel_rfl) (by kernel_rfl) (by kernel_rfl) (fun _ _ _ h => h) (reg.wanted_none rfl) (hM.ls (by simp)) (fun W hW => by simp [execOp, go_sem, Act.put, hsz, s1, s5]) ?_
        refine reg.e_done (by kernel_rfl) ?_ _
        subst ha0
        clear hsz s1 s5
        go_simp
        repeat' (first | go_values | go_skip | go_guarded | go_step | go_upon | (simp only [Int.not_lt, Int.not_le] at *; go_simp))
        go_meet
        case rel => exact ⟨za, rfl, rfl, rfl, hM.tail⟩
      · refine r_alloc (i := 8) rfl (reg.wanted_none rfl) rfl zer_hub ?_
        intro ru5 za rhn
        replace hM := hM.new rhn
        clear rhn
        refine ⟨hM.ls (by simp), ?_⟩
        refine reg.e_one 3 (by kernel_rfl) rfl ?_
        refine reg.r_call (i := 3) 15 #[ag F4, .string t3] rfl (reg.wanted_none rfl) (by simp [execOp, go_sem, Act.put, hsz, s1, s5]) ((q7.out _).mono ?_)
        rintro re ru6 ⟨rfl, rhv⟩
        replace hM := hM.call rhv
        clear rhv
        refine ⟨_, rfl, hM.ls (by simp), ?_⟩
        refine reg.e_take (i := 4) (.tuple #[ag F4, .string ⟨#[3, 1, 17, 0]⟩, .int .i64 0]) rfl (by kernel_rfl) (by kernel_rfl) (by kernel_rfl) (by kernel_rfl) (fun _ _ _ h => h) (reg.wanted_none rfl) (hM.ls (by simp)) (fun W hW => by simp [execOp, go_sem, Act.put, hsz, s1, s5]) ?_
        refine reg.e_take (i := 5) (ag F4) rfl (by kernel_rfl) (by kernel_rfl) (by kernel_rfl) (by kernel_rfl) (fun _ _ _ h => h) (reg.wanted_none rfl) (hM.ls (by simp)) (fun W hW => by simp [execOp, go_sem, Act.put, hsz, s1, s5]) ?_
        refine reg.e_take (i := 6) (.string ⟨#[3, 1, 17, 0]⟩) rfl (by kernel_rfl) (by kernel_rfl) (by kernel_rfl) (by kernel_rfl) (fun _ _ _ h => h) (reg.wanted_none rfl) (hM.ls (by simp)) (fun W hW => by simp [execOp, go_sem, Act.put, hsz, s1, s5]) ?_
        refine reg.e_take (i := 7) (.int .i64 0) rfl (by kernel_rfl) (by kernel_rfl) (by kernel_rfl) (by kernel_rfl) (fun _ _ _ h => h) (reg.wanted_none rfl) (hM.ls (by simp)) (fun W hW => by simp [execOp, go_sem, Act.put, hsz, s1, s5]) ?_
        refine reg.e_one 9 (by kernel_rfl) rfl ?_
        refine r_fill (i := 9) rfl (reg.wanted_none rfl) rfl row_hub (by simp [go_sem, Act.put, hsz, s1, s5]) (by simp [go_sem, Act.put, hsz, s1, s5]) hM.at0 HL4.out rep_33 ?_
        intro ru7 rhv rhc
        replace hM := hM.put0 rhc rhv
        clear rhc rhv
        refine ⟨hM.ls (by simp), ?_⟩
        refine reg.e_take (i := 10) (.string ⟨#[3, 1, 17, 0]⟩) rfl (by kernel_rfl) (by kernel_rfl) (by kernel_rfl) (by kernel_rfl) (fun _ _ _ h => h) (reg.wanted_none rfl) (hM.ls (by simp)) (fun W hW => by simp [execOp, go_sem, Act.put, hsz, s1, s5]) ?_
        refine reg.e_take (i := 11) (.int .i64 0) rfl (by kernel_rfl) (by kernel_rfl) (by kernel_rfl) (by kernel_rfl) (fun _ _ _ h => h) (reg.wanted_none rfl) (hM.ls (by simp)) (fun W hW => by simp [execOp, go_sem, Act.put, hsz, s1, s5]) ?_
        refine reg.e_done (by kernel_rfl) ?_ _
        subst ha0
        clear hsz s1 s5
        go_simp
        repeat' (first | go_values | go_skip | go_guarded | go_step | go_upon | (simp only [Int.not_lt, Int.not_le] at *; go_simp))
        go_meet
        case rel => exact ⟨za, rfl, rfl, rfl, hM.tail⟩
    · refine r_alloc (i := 8) rfl (reg.wanted_none rfl) rfl zer_hub ?_
      intro ru8 za rhn
      replace hM := hM.new rhn
      clear rhn
      refine ⟨hM.ls (by simp), ?_⟩
      refine reg.e_one 2 (by kernel_rfl) rfl ?_
      refine reg.r_call (i := 2) 21 #[.int .i64 8, .int .i64 0, .int .i64 (k : Int), .int .i64 4] rfl (reg.wanted_none rfl) (by simp [execOp, go_sem, Act.put, hsz, s1, s5]) ((a3.out _).mono ?_)
      rintro re ru9 ⟨rfl, rhv⟩
      replace hM := hM.call rhv
      clear rhv
      refine ⟨_, rfl, hM.ls (by simp), ?_⟩
      refine reg.e_one 3 (by kernel_rfl) rfl ?_
      refine reg.r_call (i := 3) 15 #[ag F4, .string t3] rfl (reg.wanted_none rfl) (by simp [execOp, go_sem, Act.put, hsz, s1, s5]) ((q7.out _).mono ?_)
      rintro re ru10 ⟨rfl, rhv⟩
      replace hM := hM.call rhv
      clear rhv
      refine ⟨_, rfl, hM.ls (by simp), ?_⟩
      refine reg.e_take (i := 4) (.tuple #[ag F4, .string ⟨#[3, 1, 17, 0]⟩, .int .i64 0]) rfl (by kernel_rfl) (by kernel_rfl) (by kernel_rfl) (by kernel_rfl) (fun _ _ _ h => h) (reg.wanted_none rfl) (hM.ls (by simp)) (fun W hW => by simp [execOp, go_sem, Act.put, hsz, s1, s5]) ?_
      refine reg.e_take (i := 5) (ag F4) rfl (by kernel_rfl) (by kernel_rfl) (by kernel_rfl) (by kernel_rfl) (fun _ _ _ h => h) (reg.wanted_none rfl) (hM.ls (by simp)) (fun W hW => by simp [execOp, go_sem, Act.put, hsz, s1, s5]) ?_
      refine reg.e_take (i := 6) (.string ⟨#[3, 1, 17, 0]⟩) rfl (by kernel_rfl) (by kernel_rfl) (by kernel_rfl) (by kernel_rfl) (fun _ _ _ h => h) (reg.wanted_none rfl) (hM.ls (by simp)) (fun W hW => by simp [execOp, go_sem, Act.put, hsz, s1, s5]) ?_
      refine reg.e_take (i := 7) (.int .i64 0) rfl (by kernel_rfl) (by kernel_rfl) (by kernel_rfl) (by kernel_rfl) (fun _ _ _ h => h) (reg.wanted_none rfl) (hM.ls (by simp)) (fun W hW => by simp [execOp, go_sem, Act.put, hsz, s1, s5]) ?_
      refine reg.e_one 9 (by kernel_rfl) rfl ?_
      refine r_fill (i := 9) rfl (reg.wanted_none rfl) rfl row_hub (by simp [go_sem, Act.put, hsz, s1, s5]) (by simp [go_sem, Act.put, hsz, s1, s5]) hM.at0 HL4.out rep_33 ?_
      intro ru11 rhv rhc
      replace hM := hM.put0 rhc rhv
      clear rhc rhv
      refine ⟨hM.ls (by simp), ?_⟩
      refine reg.e_take (i := 10) (.string ⟨#[3, 1, 17, 0]⟩) rfl (by kernel_rfl) (by kernel_rfl) (by kernel_rfl) (by kernel_rfl) (fun _ _ _ h => h) (reg.wanted_none rfl) (hM.ls (by simp)) (fun W hW => by simp [execOp, go_sem, Act.put, hsz, s1, s5]) ?_
      refine reg.e_take (i := 11) (.int .i64 0) rfl (by kernel_rfl) (by kernel_rfl) (by kernel_rfl) (by kernel_rfl) (fun _ _ _ h => h) (reg.wanted_none rfl) (hM.ls (by simp)) (fun W hW => by simp [execOp, go_sem, Act.put, hsz, s1, s5]) ?_
      refine reg.e_done (by kernel_rfl) ?_ _
      subst ha0
      clear hsz s1 s5
      go_simp
      repeat' (first | go_values | go_skip | go_guarded | go_step | go_upon | (simp only [Int.not_lt, Int.not_le] at *; go_simp))
      go_meet
      case rel => exact ⟨za, rfl, rfl, rfl, hM.tail⟩
  case rest =>
  obtain ⟨za, rfl, rfl, rfl, HX⟩ := hcut
  rename World => ux
  replace hM := HX.out
  clear HX
  repeat' (first | (go_big_may; first | (refine a_load rfl rfl row_hub rfl hM.at0 HE4.out HC4.out ?_)) | go_values | go_skip | go_guarded | go_step | go_upon | (simp only [Int.not_lt, Int.not_le] at *; go_simp))
  refine (q8.out _).mono ?_
  rintro r u ⟨rfl, hv⟩
  replace hM := hM.call hv
  clear hv
  repeat' (first | (go_big_may; first | (refine a_fill rfl rfl row_hub rfl rfl hM.at0 HL5.out HL4.out ?_; intro u hv hc; replace hM := hM.put0 hc hv; clear hv hc)) | go_values | go_skip | go_guarded | go_step | go_upon | (simp only [Int.not_lt, Int.not_le] at *; go_simp))
  go_simp
  refine reg.wp_abs (fun a0 => a0.tmps.size = 140 ∧ (∀ h, a0.tmps[1]'h = .int .i64 (k : Int)) ∧ (∀ h, a0.tmps[5]'h = .pointer (some ⟨zh, 0, none⟩))) ⟨rfl, fun _ => rfl, fun _ => rfl⟩ ?_
  rintro a0 ⟨hsz, s1, s5⟩ ha0
  refine reg.wp_region_E (S := fun W => Ls W [(zh, 26, F5)]) (E := fun _ => false) (by kernel_rfl) ?_
  replace hM := hM.drew
  refine reg.e_take (i := 0) (ag F5) rfl (by kernel_rfl) (by kernel_rfl) (by kernel_rfl) (by kernel_rfl) (fun _ _ _ h => h) (reg.wanted_none rfl) (hM.ls (by simp)) (fun W hW => ex_load rfl row_hub (by simp [go_sem, Act.put, hsz, s1, s5]) hW.at0 HE5.out HC5.out) ?_
  refine reg.e_take (i := 1) (.int .i64 (k : Int)) rfl (by kernel_rfl) (by kernel_rfl) (by kernel_rfl) (by kernel_rfl) (fun _ _ _ h => h) (reg.wanted_none rfl) (hM.ls (by simp)) (fun W hW => by simp [execOp, go_sem, Act.put, hsz, s1, s5]) ?_
  refine reg.e_one 2 (by kernel_rfl) rfl ?_
  refine reg.r_call (i := 2) 21 #[.int .i64 8, .int .i64 0, .int .i64 (k : Int), .int .i64 4] rfl (reg.wanted_none rfl) (by simp [execOp, go_sem, Act.put, hsz, s1, s5]) ((a3.out _).mono ?_)
  rintro re ru1 ⟨rfl, rhv⟩
  replace hM := hM.call rhv
  clear rhv
  refine ⟨_, rfl, hM.ls (by simp), ?_⟩
  refine reg.e_one 3 (by kernel_rfl) rfl ?_
  refine reg.r_call (i := 3) 15 #[ag F5, .string t3] rfl (reg.wanted_none rfl) (by simp [execOp, go_sem, Act.put, hsz, s1, s5]) ((q9.out _).mono ?_)
  rintro re ru2 ⟨rfl, rhv⟩
  replace hM := hM.call rhv
  clear rhv
  refine ⟨_, rfl, hM.ls (by simp), ?_⟩
  refine reg.e_take (i := 4) (.tuple #[ag F5, .string ⟨#[0, 1, 19, 0]⟩, .int .i64 0]) rfl (by kernel_rfl) (by kernel_rfl) (by kernel_rfl) (by kernel_rfl) (fun _ _ _ h => h) (reg.wanted_none rfl) (hM.ls (by simp)) (fun W hW => by simp [execOp, go_sem, Act.put, hsz, s1, s5]) ?_
  refine reg.e_take (i := 5) (ag F5) rfl (by kernel_rfl) (by kernel_rfl) (by kernel_rfl) (by kernel_rfl) (fun _ _ _ h => h) (reg.wanted_none rfl) (hM.ls (by simp)) (fun W hW => by simp [execOp, go_sem, Act.put, hsz, s1, s5]) ?_
  refine reg.e_take (i := 6) (.string ⟨#[0, 1, 19, 0]⟩) rfl (by kernel_rfl) (by kernel_rfl) (by kernel_rfl) (by kernel_rfl) (fun _ _ _ h => h) (reg.wanted_none rfl) (hM.ls (by simp)) (fun W hW => by simp [execOp, go_sem, Act.put, hsz, s1, s5]) ?_
  refine reg.e_take (i := 7) (.int .i64 0) rfl (by kernel_rfl) (by kernel_rfl) (by kernel_rfl) (by kernel_rfl) (fun _ _ _ h => h) (reg.wanted_none rfl) (hM.ls (by simp)) (fun W hW => by simp [execOp, go_sem, Act.put, hsz, s1, s5]) ?_
  refine reg.e_take (i := 8) (.string ⟨#[0, 1, 19, 0]⟩) rfl (by kernel_rfl) (by kernel_rfl) (by kernel_rfl) (by kernel_rfl) (fun _ _ _ h => h) (reg.wanted_none rfl) (hM.ls (by simp)) (fun W hW => by simp [execOp, go_sem, Act.put, hsz, s1, s5]) ?_
  refine reg.e_take (i := 9) (.int .i64 0) rfl (by kernel_rfl) (by kernel_rfl) (by kernel_rfl) (by kernel_rfl) (fun _ _ _ h => h) (reg.wanted_none rfl) (hM.ls (by simp)) (fun W hW => by simp [execOp, go_sem, Act.put, hsz, s1, s5]) ?_
  refine reg.e_done (by kernel_rfl) ?_ _
  subst ha0
  clear hsz s1 s5
  go_simp
  repeat' (first | go_values | go_skip | go_guarded | go_step | go_upon | (simp only [Int.not_lt, Int.not_le] at *; go_simp))
  go_ret
  exact ⟨rfl, hM.below⟩
end Go.Proofs.Ytdnmjeiljpdmcaa.hubPath
