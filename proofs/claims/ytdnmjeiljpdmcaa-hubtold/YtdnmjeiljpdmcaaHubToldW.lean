/- HubTold: the bit of a port is 1 just if its own status tells a change; where all are cleared no bit is 1. -/
import Derived.Test.YtdnmjeiljpdmcaaHubX
import Derived.Test.YtdnmjeiljpdmcaaHubO
namespace Go.Proofs.Ytdnmjeiljpdmcaa.hubTold
open Go Go.RowKit Go.PlainAid Go.Proofs.Ytdnmjeiljpdmcaa.hub
open Go.Proofs.Ytdnmjeiljpdmcaa.slots (cl cl_at)
open Go.Proofs.Ytdnmjeiljpdmcaa.lane (nums str_size bt_nums nums_str)
open Go.Proofs.Ytdnmjeiljpdmcaa.setup (wrT good)
set_option linter.unusedVariables false
set_option linter.unusedSimpArgs false
set_option maxRecDepth 100000

theorem run_ix (s : ByteArray) (k : Nat) (h : k < s.size) (W : World) : (Instr.index 9 (.string s) (.int .i64 (k : Int))).run Try.prog W = .ok (.int .u8 (bt s k)) W := by
  have e : bt s k = ((s[k]'h).toNat : Int) := by unfold bt; rw [dif_pos h]
  rw [e]
  simp [Instr.index, asIntOf, run_underlying Try.underlying9, h, Result.andThen]
theorem bt_str {l : List Int} (h : lane.Byt l) {j : Nat} {x : Int} (hx : l[j]? = some x) : bt (strOfNums l) j = x := by
  have hj := (List.getElem?_eq_some_iff.1 hx).1
  rw [bt_nums _ j (by rw [str_size]; exact hj), nums_str l h, List.getD_eq_getElem?_getD, hx]; rfl
theorem and_one (b : Fin 2) : bits .and .u8 (b.val : Int) 1 = (b.val : Int) := by revert b; decide
theorem and_bit : ∀ X : Fin 256, bits .and .u8 (X.val : Int) 1 = (X.val : Int) % 2 := by decide +kernel
theorem and_any {X : Int} (h0 : 0 ≤ X) (h1 : X < 256) : bits .and .u8 X 1 = X % 2 := by
  have := and_bit ⟨X.toNat, by omega⟩
  simp only [Int.toNat_of_nonneg h0] at this
  exact this
theorem row3 (l : List Int) (k : Nat) (x : Int) (hx : l[k]? = some x) (hk : k < 3) (w : World) : (Instr.index 44 (ag l) (.int .i64 (k : Int))).run Try.prog w = .ok (.int .i64 x) w := by
  have h2 : (ics l)[k]? = some (.int .i64 x) := by rw [ics_at, hx]; rfl
  unfold Instr.index
  simp [asIntOf, run_underlying Try.underlying44, ag, hk, part, agg_int, size_int, h2]
theorem bld_3 (w : World) : (Instr.build 44 #[(0, .int .i64 16), (1, .int .i64 17), (2, .int .i64 20)]).run Try.prog w = .ok (ag [16, 17, 20]) w := by kernel_rfl
set_option maxHeartbeats 16000000 in
theorem walk (F : List Int) (p : Int) (hp : (Lit.int .i64 p).wf = true) (w : World) (hb : Hb F) : Calls Try.prog 8 #[ag F, .int .i64 p] w fun r w' => r = .returned (.bool true) ∧ Below w.heap.size w w' := by
  have HL : Hid (F.length = 33) := hb.len
  have HC : Hid (cut F 0 33 = F) := cut_all hb.len
  have HE : Hid (0 + 33 ≤ F.length) := by show 0 + 33 ≤ _; rw [hb.len]; omega
  have H0 : Hid (F[0]? = some (cn F)) := cl_at (by rw [hb.len]; omega)
  have HLv : Hid (∀ u, Calls Try.prog 19 #[] u fun e w' => e = .returned (.bool true) ∧ Below u.heap.size u w') := lives_any
  have HCg : Hid (∀ u, Calls Try.prog 17 #[ag F] u fun e w' => e = .returned (.tuple #[.string (strOfNums (cgT F)), .int .i64 (chk F)]) ∧ Below u.heap.size u w') := fun u => changes_any F u hb
  have hM := Mm.nil w
  clear hp
  have hcase : (chk F != 0) = true ∨ chk F = 0 ∧ (decide (p < 1) = true ∨ decide (p < 1) = false ∧ (decide (cn F < p) = true ∨ decide (cn F < p) = false)) := by
    by_cases z : chk F = 0
    · refine .inr ⟨z, ?_⟩
      by_cases y : p < 1
      · left; simpa using y
      · right
        refine ⟨by simpa using y, ?_⟩
        cases decide (cn F < p)
        · right; rfl
        · left; rfl
    · left; simpa using z
  rcases hcase with b0 | ⟨h0, hcase⟩
  · clear hb H0
    generalize strOfNums (cgT F) = SS at *
    generalize chk F = z at *
    go_enter Try.func8, Try.ntmps8
    repeat' (first | (go_big_may; first | (refine a_box rfl rfl rfl ?_; intro u zh hN; replace hM := hM.new hN; clear hN) | (refine a_load rfl rfl row_hub rfl hM.at0 HE.out HC.out ?_)) | go_values | go_skip | go_guarded | go_step | go_upon | (simp only [Int.not_lt, Int.not_le] at *; go_simp))
    refine (HCg.out _).mono ?_
    rintro r u ⟨rfl, hv⟩
    replace hM := hM.call hv
    clear hv
    repeat' (first | go_values | go_skip | go_guarded | go_step | go_upon | (simp only [Int.not_lt, Int.not_le] at *; go_simp))
    refine (HLv.out _).mono ?_
    rintro r u ⟨rfl, hv⟩
    replace hM := hM.call hv
    clear hv
    repeat' (first | go_values | go_skip | go_guarded | go_step | go_upon | (simp only [Int.not_lt, Int.not_le] at *; go_simp))
    refine (HLv.out _).mono ?_
    rintro r u ⟨rfl, hv⟩
    replace hM := hM.call hv
    clear hv
    repeat' (first | go_values | go_skip | go_guarded | go_step | go_upon | (simp only [Int.not_lt, Int.not_le] at *; go_simp))
    go_ret
    exact ⟨rfl, hM.below⟩
  have hok := chk_ok hb.len h0
  rw [h0] at HCg
  rcases hcase with d1 | ⟨d1, hcase⟩
  · clear hb h0 hok
    generalize strOfNums (cgT F) = SS at *
    generalize cn F = c at *
    go_enter Try.func8, Try.ntmps8
    repeat' (first | (go_big_may; first | (refine a_box rfl rfl rfl ?_; intro u zh hN; replace hM := hM.new hN; clear hN) | (refine a_load rfl rfl row_hub rfl hM.at0 HE.out HC.out ?_)) | go_values | go_skip | go_guarded | go_step | go_upon | (simp only [Int.not_lt, Int.not_le] at *; go_simp))
    refine (HCg.out _).mono ?_
    rintro r u ⟨rfl, hv⟩
    replace hM := hM.call hv
    clear hv
    repeat' (first | go_values | go_skip | go_guarded | go_step | go_upon | (simp only [Int.not_lt, Int.not_le] at *; go_simp))
    refine (HLv.out _).mono ?_
    rintro r u ⟨rfl, hv⟩
    replace hM := hM.call hv
    clear hv
    repeat' (first | go_values | go_skip | go_guarded | go_step | go_upon | (simp only [Int.not_lt, Int.not_le] at *; go_simp))
    refine (HLv.out _).mono ?_
    rintro r u ⟨rfl, hv⟩
    replace hM := hM.call hv
    clear hv
    repeat' (first | go_values | go_skip | go_guarded | go_step | go_upon | (simp only [Int.not_lt, Int.not_le] at *; go_simp))
    go_ret
    exact ⟨rfl, hM.below⟩
  rcases hcase with d2 | d2
  · clear hb h0 hok
    generalize strOfNums (cgT F) = SS at *
    generalize cn F = c at *
    go_enter Try.func8, Try.ntmps8
    repeat' (first | (go_big_may; first | (refine a_box rfl rfl rfl ?_; intro u zh hN; replace hM := hM.new hN; clear hN) | (refine a_load rfl rfl row_hub rfl hM.at0 HE.out HC.out ?_)) | go_values | go_skip | go_guarded | go_step | go_upon | (simp only [Int.not_lt, Int.not_le] at *; go_simp))
    refine (HCg.out _).mono ?_
    rintro r u ⟨rfl, hv⟩
    replace hM := hM.call hv
    clear hv
    repeat' (first | go_values | go_skip | go_guarded | go_step | go_upon | (simp only [Int.not_lt, Int.not_le] at *; go_simp))
    refine (HLv.out _).mono ?_
    rintro r u ⟨rfl, hv⟩
    replace hM := hM.call hv
    clear hv
    repeat' (first | (go_big_may; first | (refine a_get rfl rfl rfl hM.at0 H0.out ?_)) | go_values | go_skip | go_guarded | go_step | go_upon | (simp only [Int.not_lt, Int.not_le] at *; go_simp))
    refine (HLv.out _).mono ?_
    rintro r u ⟨rfl, hv⟩
    replace hM := hM.call hv
    clear hv
    repeat' (first | go_values | go_skip | go_guarded | go_step | go_upon | (simp only [Int.not_lt, Int.not_le] at *; go_simp))
    go_ret
    exact ⟨rfl, hM.below⟩
  have hp1 : 1 ≤ p := by simpa using d1
  have hp2 : p ≤ cn F := by simpa using d2
  have hc1 := hok.lo
  have hc2 := hok.hi
  obtain ⟨k, rfl⟩ : ∃ k : Nat, p = (k : Int) := ⟨p.toNat, by omega⟩
  have hk16 : k < 16 := by omega
  have hpk : isP F (k : Int) = true := by rw [isP_iff]; exact ⟨hp1, hp2⟩
  obtain ⟨m1, hm⟩ : ∃ m1 : Nat, cn F / 8 = (m1 : Int) := ⟨(cn F / 8).toNat, by omega⟩
  have hm2 : m1 ≤ 1 := by omega
  have a3 : Hid (∀ u : World, Calls Try.prog 21 #[.int .i64 8, .int .i64 0, .int .i64 (k : Int), .int .i64 4] u fun e w' => e = .returned (.string (wrT 8 0 k 4)) ∧ Below u.heap.size u w') := fun u => asked_any 8 0 k 4 (by omega) u
  have hs := stB_iff.1 (rgt_iff.1 (hok.rgt hk16)).1
  have hch := hok.ch hk16
  obtain ⟨TT, hTT⟩ : ∃ TT, strOfNums [sta F k % 256, sta F k / 256, chg F k % 256, chg F k / 256] = TT := ⟨_, rfl⟩
  have hTz : TT.size = 4 := by rw [← hTT, str_size]; rfl
  have hT2 : bt TT 2 = chg F k := by
    rw [← hTT]
    refine bt_str ?_ (x := chg F k) ?_
    · intro x hx; simp at hx; omega
    · show some (chg F k % 256) = _
      rw [Int.emod_eq_of_lt (by omega) (by omega)]
  have hT3 : bt TT 3 = 0 := by
    rw [← hTT]
    refine bt_str ?_ (x := 0) ?_
    · intro x hx; simp at hx; omega
    · show some (chg F k / 256) = _
      rw [show chg F k / 256 = 0 by omega]
  have hx2 := run_ix TT 2 (by omega)
  have hx3 := run_ix TT 3 (by omega)
  rw [hT2] at hx2
  rw [hT3] at hx3
  replace hx2 : ∀ W : World, (Instr.index 9 (.string TT) (.int .i64 2)).run Try.prog W = .ok (.int .u8 (chg F k)) W := hx2
  replace hx3 : ∀ W : World, (Instr.index 9 (.string TT) (.int .i64 3)).run Try.prog W = .ok (.int .u8 0) W := hx3
  have hcq : Hid (∀ u : World, Calls Try.prog 15 #[ag F, .string (wrT 8 0 k 4)] u fun e w' => e = .returned (.tuple #[ag F, .string TT, .int .i64 0]) ∧ Below u.heap.size u w') := fun u => by
    have hg : good 8 0 k 4 = true := good_port (.inl ⟨rfl, rfl, rfl⟩) hp1 (by omega)
    obtain ⟨hq, hz⟩ := asked_qs hg
    have := control_any F (wrT 8 0 k 4) u hok.hb (by rw [hz]; unfold maxLen; omega)
    obtain ⟨e1, e2, e3⟩ := ctl_8 hok (v := 0) hpk
    unfold ctS at this
    rw [hq, e1, e2, e3, hTT] at this
    exact this
  obtain ⟨SS, hSS⟩ : ∃ SS, strOfNums (cgT F) = SS := ⟨_, rfl⟩
  have hSz : SS.size = m1 + 1 := by rw [← hSS, str_size, cgT_len hok hm]
  obtain ⟨j, rr, x, hj, hr, hr8, hjm, hxj, hx0, hx1, hbit⟩ := told_bit hok hm hk16 hpk
  have hxs := run_ix SS j (by omega)
  rw [show bt SS j = x by rw [← hSS]; exact bt_str (cgT_byt hok) hxj] at hxs
  obtain ⟨X, hX⟩ : ∃ X, x / 2 ^ rr = X := ⟨_, rfl⟩
  have hpw : (0 : Int) < 2 ^ rr := Int.pow_pos (by omega)
  have hX0 : 0 ≤ X := by rw [← hX]; exact Int.ediv_nonneg hx0 (by omega)
  have hX1 : X < 256 := by
    have : x / 2 ^ rr ≤ x := Int.ediv_le_self _ hx0
    omega
  rw [hX] at hbit
  have hand := and_any hX0 hX1
  rw [hbit] at hand
  rw [hSS] at HCg
  have HWay : Hid (hub.Way (cn F) 1 F) := hub.Way.first hok rfl
  clear hb h0 hok hs hTT hT2 hT3 hpk hSS hxj hbit
  obtain ⟨c, hc⟩ : ∃ c, cn F = c := ⟨_, rfl⟩
  rw [hc] at H0 hc1 hc2 d2 hp2 hm HWay
  clear hc
  generalize wrT 8 0 k 4 = t3 at *
  go_enter Try.func8, Try.ntmps8
  repeat' (first | (go_big_may; first | (refine a_box rfl rfl rfl ?_; intro u zh hN; replace hM := hM.new hN; clear hN) | (refine a_load rfl rfl row_hub rfl hM.at0 HE.out HC.out ?_)) | go_values | go_skip | go_guarded | go_step | go_upon | (simp only [Int.not_lt, Int.not_le] at *; go_simp))
  refine (HCg.out _).mono ?_
  rintro r u ⟨rfl, hv⟩
  replace hM := hM.call hv
  clear hv
  repeat' (first | go_values | go_skip | go_guarded | go_step | go_upon | (simp only [Int.not_lt, Int.not_le] at *; go_simp))
  refine (HLv.out _).mono ?_
  rintro r u ⟨rfl, hv⟩
  replace hM := hM.call hv
  clear hv
  repeat' (first | (go_big_may; first | (refine a_get rfl rfl rfl hM.at0 H0.out ?_)) | go_values | go_skip | go_guarded | go_step | go_upon | (simp only [Int.not_lt, Int.not_le] at *; go_simp))
  go_simp
  go_cut [6, 7, 8] from 34 to 42 (fun ev pv sv wx => ∃ za : Nat, pv = .pointer (some ⟨za, 0, none⟩) ∧ sv = .string TT ∧ ev = .int .i64 0 ∧ Hid (Mm w wx [(zh, 26, F)]))
  case first =>
    refine reg.wp_abs (fun a0 => a0.tmps.size = 116 ∧ (∀ h, a0.tmps[1]'h = .int .i64 (k : Int)) ∧ (∀ h, a0.tmps[2]'h = .pointer (some ⟨zh, 0, none⟩))) ⟨rfl, fun _ => rfl, fun _ => rfl⟩ ?_
    rintro a0 ⟨hsz, s1, s2⟩ ha0
    refine reg.wp_region_E (S := fun W => Ls W [(zh, 26, F)]) (E := fun _ => false) (by kernel_rfl) ?_
    replace hM := hM.drew
    refine reg.e_take (i := 0) (ag F) rfl (by kernel_rfl) (by kernel_rfl) (by kernel_rfl) (by kernel_rfl) (fun _ _ _ h => h) (reg.wanted_none rfl) (hM.ls (by simp)) (fun W hW => ex_load rfl row_hub (by simp [go_sem, Act.put, hsz, s1, s2]) hW.at0 HE.out HC.out) ?_
    refine reg.e_take (i := 1) (.int .i64 (k : Int)) rfl (by kernel_rfl) (by kernel_rfl) (by kernel_rfl) (by kernel_rfl) (fun _ _ _ h => h) (reg.wanted_none rfl) (hM.ls (by simp)) (fun W hW => by simp [execOp, go_sem, Act.put, hsz, s1, s2]) ?_
    refine reg.e_two 2 8 (by kernel_rfl) rfl rfl ?_ ?_
    · refine reg.r_call (i := 2) 21 #[.int .i64 8, .int .i64 0, .int .i64 (k : Int), .int .i64 4] rfl (reg.wanted_none rfl) (by simp [execOp, go_sem, Act.put, hsz, s1, s2]) ((a3.out _).mono ?_)
      rintro re ru1 ⟨rfl, rhv⟩
      replace hM := hM.call rhv
      clear rhv
      refine ⟨_, rfl, hM.ls (by simp), ?_⟩
      refine reg.e_two 3 8 (by kernel_rfl) rfl rfl ?_ ?_
      · refine reg.r_call (i := 3) 15 #[ag F, .string t3] rfl (reg.wanted_none rfl) (by simp [execOp, go_sem, Act.put, hsz, s1, s2]) ((hcq.out _).mono ?_)
        rintro re ru2 ⟨rfl, rhv⟩
        replace hM := hM.call rhv
        clear rhv
        refine ⟨_, rfl, hM.ls (by simp), ?_⟩
        refine reg.e_take (i := 4) (.tuple #[ag F, .string TT, .int .i64 0]) rfl (by kernel_rfl) (by kernel_rfl) (by kernel_rfl) (by kernel_rfl) (fun _ _ _ h => h) (reg.wanted_none rfl) (hM.ls (by simp)) (fun W hW => by simp [execOp, go_sem, Act.put, hsz, s1, s2]) ?_
        refine reg.e_take (i := 5) (ag F) rfl (by kernel_rfl) (by kernel_rfl) (by kernel_rfl) (by kernel_rfl) (fun _ _ _ h => h) (reg.wanted_none rfl) (hM.ls (by simp)) (fun W hW => by simp [execOp, go_sem, Act.put, hsz, s1, s2]) ?_
        refine reg.e_take (i := 6) (.string TT) rfl (by kernel_rfl) (by kernel_rfl) (by kernel_rfl) (by kernel_rfl) (fun _ _ _ h => h) (reg.wanted_none rfl) (hM.ls (by simp)) (fun W hW => by simp [execOp, go_sem, Act.put, hsz, s1, s2]) ?_
        refine reg.e_take (i := 7) (.int .i64 0) rfl (by kernel_rfl) (by kernel_rfl) (by kernel_rfl) (by kernel_rfl) (fun _ _ _ h => h) (reg.wanted_none rfl) (hM.ls (by simp)) (fun W hW => by simp [execOp, go_sem, Act.put, hsz, s1, s2]) ?_
        refine reg.e_one 8 (by kernel_rfl) rfl ?_
        refine r_alloc (i := 8) rfl (reg.wanted_none rfl) rfl zer_hub ?_
        intro ru3 za rhn
        replace hM := hM.new rhn
        clear rhn
        refine ⟨hM.ls (by simp), ?_⟩
        refine reg.e_one 9 (by kernel_rfl) rfl ?_
        refine r_fill (i := 9) rfl (reg.wanted_none rfl) rfl row_hub (by simp [go_sem, Act.put, hsz, s1, s2]) (by simp [go_sem, Act.put, hsz, s1, s2]) hM.at0 HL.out rep_33 ?_
        intro ru4 rhv rhc
        replace hM := hM.put0 rhc rhv
        clear rhc rhv
        refine ⟨hM.ls (by simp), ?_⟩
        refine reg.e_take (i := 10) (.string TT) rfl (by kernel_rfl) (by kernel_rfl) (by kernel_rfl) (by kernel_rfl) (fun _ _ _ h => h) (reg.wanted_none rfl) (hM.ls (by simp)) (fun W hW => by simp [execOp, go_sem, Act.put, hsz, s1, s2]) ?_
        refine reg.e_take (i := 11) (.int .i64 0) rfl (by kernel_rfl) (by kernel_rfl) (by kernel_rfl) (by kernel_rfl) (fun _ _ _ h => h) (reg.wanted_none rfl) (hM.ls (by simp)) (fun W hW => by simp [execOp, go_sem, Act.put, hsz, s1, s2]) ?_
        refine reg.e_done (by kernel_rfl) ?_ _
        subst ha0
        clear hsz s1 s2
        go_simp
        repeat' (first | go_values | go_skip | go_guarded | go_step | go_upon | (simp only [Int.not_lt, Int.not_le] at *; go_simp))
        go_meet
        case rel => exact ⟨za, rfl, rfl, rfl, hM.tail⟩
      · refine r_alloc (i := 8) rfl (reg.wanted_none rfl) rfl zer_hub ?_
        intro ru5 za rhn
        replace hM := hM.new rhn
        clear rhn
        refine ⟨hM.ls (by simp), ?_⟩
        refine reg.e_one 3 (by kernel_rfl) rfl ?_
        refine reg.r_call (i := 3) 15 #[ag F, .string t3] rfl (reg.wanted_none rfl) (by simp [execOp, go_sem, Act.put, hsz, s1, s2]) ((hcq.out _).mono ?_)
        rintro re ru6 ⟨rfl, rhv⟩
        replace hM := hM.call rhv
        clear rhv
        refine ⟨_, rfl, hM.ls (by simp), ?_⟩
        refine reg.e_take (i := 4) (.tuple #[ag F, .string TT, .int .i64 0]) rfl (by kernel_rfl) (by kernel_rfl) (by kernel_rfl) (by kernel_rfl) (fun _ _ _ h => h) (reg.wanted_none rfl) (hM.ls (by simp)) (fun W hW => by simp [execOp, go_sem, Act.put, hsz, s1, s2]) ?_
        refine reg.e_take (i := 5) (ag F) rfl (by kernel_rfl) (by kernel_rfl) (by kernel_rfl) (by kernel_rfl) (fun _ _ _ h => h) (reg.wanted_none rfl) (hM.ls (by simp)) (fun W hW => by simp [execOp, go_sem, Act.put, hsz, s1, s2]) ?_
        refine reg.e_take (i := 6) (.string TT) rfl (by kernel_rfl) (by kernel_rfl) (by kernel_rfl) (by kernel_rfl) (fun _ _ _ h => h) (reg.wanted_none rfl) (hM.ls (by simp)) (fun W hW => by simp [execOp, go_sem, Act.put, hsz, s1, s2]) ?_
        refine reg.e_take (i := 7) (.int .i64 0) rfl (by kernel_rfl) (by kernel_rfl) (by kernel_rfl) (by kernel_rfl) (fun _ _ _ h => h) (reg.wanted_none rfl) (hM.ls (by simp)) (fun W hW => by simp [execOp, go_sem, Act.put, hsz, s1, s2]) ?_
        refine reg.e_one 9 (by kernel_rfl) rfl ?_
        refine r_fill (i := 9) rfl (reg.wanted_none rfl) rfl row_hub (by simp [go_sem, Act.put, hsz, s1, s2]) (by simp [go_sem, Act.put, hsz, s1, s2]) hM.at0 HL.out rep_33 ?_
        intro ru7 rhv rhc
        replace hM := hM.put0 rhc rhv
        clear rhc rhv
        refine ⟨hM.ls (by simp), ?_⟩
        refine reg.e_take (i := 10) (.string TT) rfl (by kernel_rfl) (by kernel_rfl) (by kernel_rfl) (by kernel_rfl) (fun _ _ _ h => h) (reg.wanted_none rfl) (hM.ls (by simp)) (fun W hW => by simp [execOp, go_sem, Act.put, hsz, s1, s2]) ?_
        refine reg.e_take (i := 11) (.int .i64 0) rfl (by kernel_rfl) (by kernel_rfl) (by kernel_rfl) (by kernel_rfl) (fun _ _ _ h => h) (reg.wanted_none rfl) (hM.ls (by simp)) (fun W hW => by simp [execOp, go_sem, Act.put, hsz, s1, s2]) ?_
        refine reg.e_done (by kernel_rfl) ?_ _
        subst ha0
        clear hsz s1 s2
        go_simp
        repeat' (first | go_values | go_skip | go_guarded | go_step | go_upon | (simp only [Int.not_lt, Int.not_le] at *; go_simp))
        go_meet
        case rel => exact ⟨za, rfl, rfl, rfl, hM.tail⟩
    · refine r_alloc (i := 8) rfl (reg.wanted_none rfl) rfl zer_hub ?_
      intro ru8 za rhn
      replace hM := hM.new rhn
      clear rhn
      refine ⟨hM.ls (by simp), ?_⟩
      refine reg.e_one 2 (by kernel_rfl) rfl ?_
      refine reg.r_call (i := 2) 21 #[.int .i64 8, .int .i64 0, .int .i64 (k : Int), .int .i64 4] rfl (reg.wanted_none rfl) (by simp [execOp, go_sem, Act.put, hsz, s1, s2]) ((a3.out _).mono ?_)
      rintro re ru9 ⟨rfl, rhv⟩
      replace hM := hM.call rhv
      clear rhv
      refine ⟨_, rfl, hM.ls (by simp), ?_⟩
      refine reg.e_one 3 (by kernel_rfl) rfl ?_
      refine reg.r_call (i := 3) 15 #[ag F, .string t3] rfl (reg.wanted_none rfl) (by simp [execOp, go_sem, Act.put, hsz, s1, s2]) ((hcq.out _).mono ?_)
      rintro re ru10 ⟨rfl, rhv⟩
      replace hM := hM.call rhv
      clear rhv
      refine ⟨_, rfl, hM.ls (by simp), ?_⟩
      refine reg.e_take (i := 4) (.tuple #[ag F, .string TT, .int .i64 0]) rfl (by kernel_rfl) (by kernel_rfl) (by kernel_rfl) (by kernel_rfl) (fun _ _ _ h => h) (reg.wanted_none rfl) (hM.ls (by simp)) (fun W hW => by simp [execOp, go_sem, Act.put, hsz, s1, s2]) ?_
      refine reg.e_take (i := 5) (ag F) rfl (by kernel_rfl) (by kernel_rfl) (by kernel_rfl) (by kernel_rfl) (fun _ _ _ h => h) (reg.wanted_none rfl) (hM.ls (by simp)) (fun W hW => by simp [execOp, go_sem, Act.put, hsz, s1, s2]) ?_
      refine reg.e_take (i := 6) (.string TT) rfl (by kernel_rfl) (by kernel_rfl) (by kernel_rfl) (by kernel_rfl) (fun _ _ _ h => h) (reg.wanted_none rfl) (hM.ls (by simp)) (fun W hW => by simp [execOp, go_sem, Act.put, hsz, s1, s2]) ?_
      refine reg.e_take (i := 7) (.int .i64 0) rfl (by kernel_rfl) (by kernel_rfl) (by kernel_rfl) (by kernel_rfl) (fun _ _ _ h => h) (reg.wanted_none rfl) (hM.ls (by simp)) (fun W hW => by simp [execOp, go_sem, Act.put, hsz, s1, s2]) ?_
      refine reg.e_one 9 (by kernel_rfl) rfl ?_
      refine r_fill (i := 9) rfl (reg.wanted_none rfl) rfl row_hub (by simp [go_sem, Act.put, hsz, s1, s2]) (by simp [go_sem, Act.put, hsz, s1, s2]) hM.at0 HL.out rep_33 ?_
      intro ru11 rhv rhc
      replace hM := hM.put0 rhc rhv
      clear rhc rhv
      refine ⟨hM.ls (by simp), ?_⟩
      refine reg.e_take (i := 10) (.string TT) rfl (by kernel_rfl) (by kernel_rfl) (by kernel_rfl) (by kernel_rfl) (fun _ _ _ h => h) (reg.wanted_none rfl) (hM.ls (by simp)) (fun W hW => by simp [execOp, go_sem, Act.put, hsz, s1, s2]) ?_
      refine reg.e_take (i := 11) (.int .i64 0) rfl (by kernel_rfl) (by kernel_rfl) (by kernel_rfl) (by kernel_rfl) (fun _ _ _ h => h) (reg.wanted_none rfl) (hM.ls (by simp)) (fun W hW => by simp [execOp, go_sem, Act.put, hsz, s1, s2]) ?_
      refine reg.e_done (by kernel_rfl) ?_ _
      subst ha0
      clear hsz s1 s2
      go_simp
      repeat' (first | go_values | go_skip | go_guarded | go_step | go_upon | (simp only [Int.not_lt, Int.not_le] at *; go_simp))
      go_meet
      case rel => exact ⟨za, rfl, rfl, rfl, hM.tail⟩
  case rest =>
  obtain ⟨za, rfl, rfl, rfl, HX⟩ := hcut
  rename World => ux
  replace hM := HX.out
  clear HX a3 hcq HLv HCg
  have hw4 : IntKind.i64.wrap (c.tdiv 8) = (m1 : Int) := by rw [Int.tdiv_eq_ediv_of_nonneg (by omega), hm, IntKind.wrap_i64]; omega
  have hw5 : IntKind.i64.wrap ((m1 : Int) + 1) = (m1 : Int) + 1 := by rw [IntKind.wrap_i64]; omega
  have hwj : IntKind.i64.wrap ((k : Int).tdiv 8) = (j : Int) := by rw [Int.tdiv_eq_ediv_of_nonneg (by omega), hj, IntKind.wrap_i64]; omega
  have hwj2 : IntKind.i64.wrap ((k : Int) / 8) = (j : Int) := by rw [hj, IntKind.wrap_i64]; omega
  have hwr : (k : Int).tmod 8 = (rr : Int) := by rw [Int.tmod_eq_emod_of_nonneg (by omega), hr]
  repeat' (first | go_values | go_skip | go_guarded | go_step | go_upon | (simp only [Int.not_lt, Int.not_le] at *; go_simp))
  go_cut [77] from 42 to 78 (fun bv wx => bv = .bool false ∧ Hid (Mm w wx [(zh, 26, F)]))
  case first =>
    by_cases hy : chg F k = 0
    · have hb0 : bit F k = 0 := by unfold bit; rw [if_pos hy]
      rw [hb0] at hand
      rw [hy] at hx2
      clear hb0 hy hch
      refine reg.wp_abs (fun a0 => a0.tmps.size = 116 ∧ (∀ h, a0.tmps[1]'h = .int .i64 (k : Int)) ∧ (∀ h, a0.tmps[2]'h = .pointer (some ⟨zh, 0, none⟩)) ∧ (∀ h, a0.tmps[5]'h = .string SS) ∧ (∀ h, a0.tmps[6]'h = .int .i64 0) ∧ (∀ h, a0.tmps[8]'h = .string TT)) ⟨rfl, fun _ => rfl, fun _ => rfl, fun _ => rfl, fun _ => rfl, fun _ => rfl⟩ ?_
      rintro a0 ⟨hsz, s1, s2, s5, s6, s8⟩ ha0
      refine reg.wp_region_E (S := fun W => Ls W [(zh, 26, F)]) (E := fun _ => false) (by kernel_rfl) ?_
      replace hM := hM.drew
      refine reg.e_take (i := 0) (.int .i64 0) rfl (by kernel_rfl) (by kernel_rfl) (by kernel_rfl) (by kernel_rfl) (fun _ _ _ h => h) (reg.wanted_none rfl) (hM.ls (by simp)) (fun W hW => by simp [execOp, go_sem, Act.put, hsz, s1, s2, s5, s6, s8]) ?_
      refine reg.e_take (i := 1) (.bool false) rfl (by kernel_rfl) (by kernel_rfl) (by kernel_rfl) (by kernel_rfl) (fun _ _ _ h => h) (reg.wanted_none rfl) (hM.ls (by simp)) (fun W hW => by simp [execOp, go_sem, Act.put, hsz, s1, s2, s5, s6, s8]) ?_
      refine reg.e_take (i := 2) (.bool false) rfl (by kernel_rfl) (by kernel_rfl) (by kernel_rfl) (by kernel_rfl) (fun _ _ _ h => h) (reg.wanted_none rfl) (hM.ls (by simp)) (fun W hW => by simp [execOp, go_sem, Act.put, hsz, s1, s2, s5, s6, s8]) ?_
      refine reg.e_take (i := 3) (.string TT) rfl (by kernel_rfl) (by kernel_rfl) (by kernel_rfl) (by kernel_rfl) (fun _ _ _ h => h) (reg.wanted_of 2 false 44 rfl (by kernel_rfl) (by simp [Act.put, hsz])) (hM.ls (by simp)) (fun W hW => by simp [execOp, go_sem, Act.put, hsz, s1, s2, s5, s6, s8]) ?_
      refine reg.e_take (i := 4) (.int .i64 4) rfl (by kernel_rfl) (by kernel_rfl) (by kernel_rfl) (by kernel_rfl) (fun _ _ _ h => h) (reg.wanted_of 2 false 44 rfl (by kernel_rfl) (by simp [Act.put, hsz])) (hM.ls (by simp)) (fun W hW => by simp [execOp, go_sem, Act.put, hsz, s1, s2, s5, s6, s8, hTz]) ?_
      refine reg.e_take (i := 5) (.bool false) rfl (by kernel_rfl) (by kernel_rfl) (by kernel_rfl) (by kernel_rfl) (fun _ _ _ h => h) (reg.wanted_of 2 false 44 rfl (by kernel_rfl) (by simp [Act.put, hsz])) (hM.ls (by simp)) (fun W hW => by simp [execOp, go_sem, Act.put, hsz, s1, s2, s5, s6, s8]) ?_
      refine reg.e_take (i := 6) (.bool false) rfl (by kernel_rfl) (by kernel_rfl) (by kernel_rfl) (by kernel_rfl) (fun _ _ _ h => h) (reg.wanted_none rfl) (hM.ls (by simp)) (fun W hW => by simp [execOp, go_sem, Act.put, hsz, s1, s2, s5, s6, s8]) ?_
      refine reg.e_take (i := 7) (.bool false) rfl (by kernel_rfl) (by kernel_rfl) (by kernel_rfl) (by kernel_rfl) (fun _ _ _ h => h) (reg.wanted_none rfl) (hM.ls (by simp)) (fun W hW => by simp [execOp, go_sem, Act.put, hsz, s1, s2, s5, s6, s8]) ?_
      refine reg.e_take (i := 8) (.string SS) rfl (by kernel_rfl) (by kernel_rfl) (by kernel_rfl) (by kernel_rfl) (fun _ _ _ h => h) (reg.wanted_of 7 false 49 rfl (by kernel_rfl) (by simp [Act.put, hsz])) (hM.ls (by simp)) (fun W hW => by simp [execOp, go_sem, Act.put, hsz, s1, s2, s5, s6, s8]) ?_
      refine reg.e_take (i := 9) (.int .i64 ((m1 : Int) + 1)) rfl (by kernel_rfl) (by kernel_rfl) (by kernel_rfl) (by kernel_rfl) (fun _ _ _ h => h) (reg.wanted_of 7 false 49 rfl (by kernel_rfl) (by simp [Act.put, hsz])) (hM.ls (by simp)) (fun W hW => by simp [execOp, go_sem, Act.put, hsz, s1, s2, s5, s6, s8, hSz]) ?_
      refine reg.e_take (i := 10) (.pointer (some ⟨zh, 0, none⟩)) rfl (by kernel_rfl) (by kernel_rfl) (by kernel_rfl) (by kernel_rfl) (fun _ _ _ h => h) (reg.wanted_of 7 false 49 rfl (by kernel_rfl) (by simp [Act.put, hsz])) (hM.ls (by simp)) (fun W hW => by simp [execOp, go_sem, Act.put, hsz, s1, s2, s5, s6, s8]) ?_
      refine reg.e_take (i := 11) (.int .i64 c) rfl (by kernel_rfl) (by kernel_rfl) (by kernel_rfl) (by kernel_rfl) (fun _ _ _ h => h) (reg.wanted_of 7 false 49 rfl (by kernel_rfl) (by simp [Act.put, hsz])) (hM.ls (by simp)) (fun W hW => ex_get rfl (by simp [go_sem, Act.put, hsz, s1, s2, s5, s6, s8]) hW.at0 H0.out) ?_
      refine reg.e_take (i := 12) (.int .i64 (m1 : Int)) rfl (by kernel_rfl) (by kernel_rfl) (by kernel_rfl) (by kernel_rfl) (fun _ _ _ h => h) (reg.wanted_of 7 false 49 rfl (by kernel_rfl) (by simp [Act.put, hsz])) (hM.ls (by simp)) (fun W hW => by simp [execOp, go_sem, Act.put, hsz, s1, s2, s5, s6, s8, hw4]) ?_
      refine reg.e_take (i := 13) (.int .i64 ((m1 : Int) + 1)) rfl (by kernel_rfl) (by kernel_rfl) (by kernel_rfl) (by kernel_rfl) (fun _ _ _ h => h) (reg.wanted_of 7 false 49 rfl (by kernel_rfl) (by simp [Act.put, hsz])) (hM.ls (by simp)) (fun W hW => by simp [execOp, go_sem, Act.put, hsz, s1, s2, s5, s6, s8, hw5]) ?_
      refine reg.e_take (i := 14) (.bool false) rfl (by kernel_rfl) (by kernel_rfl) (by kernel_rfl) (by kernel_rfl) (fun _ _ _ h => h) (reg.wanted_of 7 false 49 rfl (by kernel_rfl) (by simp [Act.put, hsz])) (hM.ls (by simp)) (fun W hW => by simp [execOp, go_sem, Act.put, hsz, s1, s2, s5, s6, s8]) ?_
      refine reg.e_take (i := 15) (.bool false) rfl (by kernel_rfl) (by kernel_rfl) (by kernel_rfl) (by kernel_rfl) (fun _ _ _ h => h) (reg.wanted_none rfl) (hM.ls (by simp)) (fun W hW => by simp [execOp, go_sem, Act.put, hsz, s1, s2, s5, s6, s8]) ?_
      refine reg.e_take (i := 16) (.bool false) rfl (by kernel_rfl) (by kernel_rfl) (by kernel_rfl) (by kernel_rfl) (fun _ _ _ h => h) (reg.wanted_none rfl) (hM.ls (by simp)) (fun W hW => by simp [execOp, go_sem, Act.put, hsz, s1, s2, s5, s6, s8]) ?_
      refine reg.e_take (i := 17) (.string SS) rfl (by kernel_rfl) (by kernel_rfl) (by kernel_rfl) (by kernel_rfl) (fun _ _ _ h => h) (reg.wanted_of 16 false 58 rfl (by kernel_rfl) (by simp [Act.put, hsz])) (hM.ls (by simp)) (fun W hW => by simp [execOp, go_sem, Act.put, hsz, s1, s2, s5, s6, s8]) ?_
      refine reg.e_take (i := 18) (.int .i64 (k : Int)) rfl (by kernel_rfl) (by kernel_rfl) (by kernel_rfl) (by kernel_rfl) (fun _ _ _ h => h) (reg.wanted_of 16 false 58 rfl (by kernel_rfl) (by simp [Act.put, hsz])) (hM.ls (by simp)) (fun W hW => by simp [execOp, go_sem, Act.put, hsz, s1, s2, s5, s6, s8]) ?_
      refine reg.e_take (i := 19) (.int .i64 (j : Int)) rfl (by kernel_rfl) (by kernel_rfl) (by kernel_rfl) (by kernel_rfl) (fun _ _ _ h => h) (reg.wanted_of 16 false 58 rfl (by kernel_rfl) (by simp [Act.put, hsz])) (hM.ls (by simp)) (fun W hW => by simp [execOp, go_sem, Act.put, hsz, s1, s2, s5, s6, s8, hwj2]) ?_
      refine reg.e_take (i := 20) (.int .u8 x) rfl (by kernel_rfl) (by kernel_rfl) (by kernel_rfl) (by kernel_rfl) (fun _ _ _ h => h) (reg.wanted_of 16 false 58 rfl (by kernel_rfl) (by simp [Act.put, hsz])) (hM.ls (by simp)) (fun W hW => by simp [execOp, go_sem, Act.put, hsz, s1, s2, s5, s6, s8, hxs]) ?_
      refine reg.e_take (i := 21) (.int .i64 (k : Int)) rfl (by kernel_rfl) (by kernel_rfl) (by kernel_rfl) (by kernel_rfl) (fun _ _ _ h => h) (reg.wanted_of 16 false 58 rfl (by kernel_rfl) (by simp [Act.put, hsz])) (hM.ls (by simp)) (fun W hW => by simp [execOp, go_sem, Act.put, hsz, s1, s2, s5, s6, s8]) ?_
      refine reg.e_take (i := 22) (.int .i64 (rr : Int)) rfl (by kernel_rfl) (by kernel_rfl) (by kernel_rfl) (by kernel_rfl) (fun _ _ _ h => h) (reg.wanted_of 16 false 58 rfl (by kernel_rfl) (by simp [Act.put, hsz])) (hM.ls (by simp)) (fun W hW => by simp [execOp, go_sem, Act.put, hsz, s1, s2, s5, s6, s8, hwr]) ?_
      refine reg.e_take (i := 23) (.int .u8 X) rfl (by kernel_rfl) (by kernel_rfl) (by kernel_rfl) (by kernel_rfl) (fun _ _ _ h => h) (reg.wanted_of 16 false 58 rfl (by kernel_rfl) (by simp [Act.put, hsz])) (hM.ls (by simp)) (fun W hW => by simp [execOp, go_sem, Act.put, hsz, s1, s2, s5, s6, s8, hX]) ?_
      refine reg.e_take (i := 24) (.int .u8 0) rfl (by kernel_rfl) (by kernel_rfl) (by kernel_rfl) (by kernel_rfl) (fun _ _ _ h => h) (reg.wanted_of 16 false 58 rfl (by kernel_rfl) (by simp [Act.put, hsz])) (hM.ls (by simp)) (fun W hW => by simp [execOp, go_sem, Act.put, hsz, s1, s2, s5, s6, s8, hand]) ?_
      refine reg.e_take (i := 25) (.bool false) rfl (by kernel_rfl) (by kernel_rfl) (by kernel_rfl) (by kernel_rfl) (fun _ _ _ h => h) (reg.wanted_of 16 false 58 rfl (by kernel_rfl) (by simp [Act.put, hsz])) (hM.ls (by simp)) (fun W hW => by simp [execOp, go_sem, Act.put, hsz, s1, s2, s5, s6, s8]) ?_
      refine reg.e_take (i := 26) (.string TT) rfl (by kernel_rfl) (by kernel_rfl) (by kernel_rfl) (by kernel_rfl) (fun _ _ _ h => h) (reg.wanted_of 16 false 58 rfl (by kernel_rfl) (by simp [Act.put, hsz])) (hM.ls (by simp)) (fun W hW => by simp [execOp, go_sem, Act.put, hsz, s1, s2, s5, s6, s8]) ?_
      refine reg.e_take (i := 27) (.int .u8 0) rfl (by kernel_rfl) (by kernel_rfl) (by kernel_rfl) (by kernel_rfl) (fun _ _ _ h => h) (reg.wanted_of 16 false 58 rfl (by kernel_rfl) (by simp [Act.put, hsz])) (hM.ls (by simp)) (fun W hW => by simp [execOp, go_sem, Act.put, hsz, s1, s2, s5, s6, s8, hx2]) ?_
      refine reg.e_take (i := 28) (.bool false) rfl (by kernel_rfl) (by kernel_rfl) (by kernel_rfl) (by kernel_rfl) (fun _ _ _ h => h) (reg.wanted_of 16 false 58 rfl (by kernel_rfl) (by simp [Act.put, hsz])) (hM.ls (by simp)) (fun W hW => by simp [execOp, go_sem, Act.put, hsz, s1, s2, s5, s6, s8]) ?_
      refine reg.e_take (i := 29) (.bool false) rfl (by kernel_rfl) (by kernel_rfl) (by kernel_rfl) (by kernel_rfl) (fun _ _ _ h => h) (reg.wanted_of 16 false 58 rfl (by kernel_rfl) (by simp [Act.put, hsz])) (hM.ls (by simp)) (fun W hW => by simp [execOp, go_sem, Act.put, hsz, s1, s2, s5, s6, s8]) ?_
      refine reg.e_take (i := 30) (.string TT) rfl (by kernel_rfl) (by kernel_rfl) (by kernel_rfl) (by kernel_rfl) (fun _ _ _ h => h) (reg.wanted_of 29 false 71 rfl (by kernel_rfl) (by simp [Act.put, hsz])) (hM.ls (by simp)) (fun W hW => by simp [execOp, go_sem, Act.put, hsz, s1, s2, s5, s6, s8]) ?_
      refine reg.e_take (i := 31) (.int .u8 0) rfl (by kernel_rfl) (by kernel_rfl) (by kernel_rfl) (by kernel_rfl) (fun _ _ _ h => h) (reg.wanted_of 29 false 71 rfl (by kernel_rfl) (by simp [Act.put, hsz])) (hM.ls (by simp)) (fun W hW => by simp [execOp, go_sem, Act.put, hsz, s1, s2, s5, s6, s8, hx3]) ?_
      refine reg.e_take (i := 32) (.bool false) rfl (by kernel_rfl) (by kernel_rfl) (by kernel_rfl) (by kernel_rfl) (fun _ _ _ h => h) (reg.wanted_of 29 false 71 rfl (by kernel_rfl) (by simp [Act.put, hsz])) (hM.ls (by simp)) (fun W hW => by simp [execOp, go_sem, Act.put, hsz, s1, s2, s5, s6, s8]) ?_
      refine reg.e_take (i := 33) (.bool false) rfl (by kernel_rfl) (by kernel_rfl) (by kernel_rfl) (by kernel_rfl) (fun _ _ _ h => h) (reg.wanted_of 16 false 58 rfl (by kernel_rfl) (by simp [Act.put, hsz])) (hM.ls (by simp)) (fun W hW => by simp [execOp, go_sem, Act.put, hsz, s1, s2, s5, s6, s8]) ?_
      refine reg.e_take (i := 34) (.bool false) rfl (by kernel_rfl) (by kernel_rfl) (by kernel_rfl) (by kernel_rfl) (fun _ _ _ h => h) (reg.wanted_of 16 false 58 rfl (by kernel_rfl) (by simp [Act.put, hsz])) (hM.ls (by simp)) (fun W hW => by simp [execOp, go_sem, Act.put, hsz, s1, s2, s5, s6, s8]) ?_
      refine reg.e_take (i := 35) (.bool false) rfl (by kernel_rfl) (by kernel_rfl) (by kernel_rfl) (by kernel_rfl) (fun _ _ _ h => h) (reg.wanted_none rfl) (hM.ls (by simp)) (fun W hW => by simp [execOp, go_sem, Act.put, hsz, s1, s2, s5, s6, s8]) ?_
      refine reg.e_done (by kernel_rfl) ?_ _
      subst ha0
      clear hsz s1 s2 s5 s6 s8
      go_simp
      repeat' (first | go_values | go_skip | go_guarded | go_step | go_upon | (simp only [Int.not_lt, Int.not_le] at *; go_simp))
      go_meet
      case rel => exact ⟨rfl, hM⟩
    · have hb0 : bit F k = 1 := by unfold bit; rw [if_neg hy]
      rw [hb0] at hand
      obtain ⟨y, hyy⟩ : ∃ y, chg F k = y := ⟨_, rfl⟩
      rw [hyy] at hx2 hy
      have hyne : (y != 0) = true := by simpa using hy
      clear hb0 hch hyy
      refine reg.wp_abs (fun a0 => a0.tmps.size = 116 ∧ (∀ h, a0.tmps[1]'h = .int .i64 (k : Int)) ∧ (∀ h, a0.tmps[2]'h = .pointer (some ⟨zh, 0, none⟩)) ∧ (∀ h, a0.tmps[5]'h = .string SS) ∧ (∀ h, a0.tmps[6]'h = .int .i64 0) ∧ (∀ h, a0.tmps[8]'h = .string TT)) ⟨rfl, fun _ => rfl, fun _ => rfl, fun _ => rfl, fun _ => rfl, fun _ => rfl⟩ ?_
      rintro a0 ⟨hsz, s1, s2, s5, s6, s8⟩ ha0
      refine reg.wp_region_E (S := fun W => Ls W [(zh, 26, F)]) (E := fun _ => false) (by kernel_rfl) ?_
      replace hM := hM.drew
      refine reg.e_take (i := 0) (.int .i64 0) rfl (by kernel_rfl) (by kernel_rfl) (by kernel_rfl) (by kernel_rfl) (fun _ _ _ h => h) (reg.wanted_none rfl) (hM.ls (by simp)) (fun W hW => by simp [execOp, go_sem, Act.put, hsz, s1, s2, s5, s6, s8]) ?_
      refine reg.e_take (i := 1) (.bool false) rfl (by kernel_rfl) (by kernel_rfl) (by kernel_rfl) (by kernel_rfl) (fun _ _ _ h => h) (reg.wanted_none rfl) (hM.ls (by simp)) (fun W hW => by simp [execOp, go_sem, Act.put, hsz, s1, s2, s5, s6, s8]) ?_
      refine reg.e_take (i := 2) (.bool false) rfl (by kernel_rfl) (by kernel_rfl) (by kernel_rfl) (by kernel_rfl) (fun _ _ _ h => h) (reg.wanted_none rfl) (hM.ls (by simp)) (fun W hW => by simp [execOp, go_sem, Act.put, hsz, s1, s2, s5, s6, s8]) ?_
      refine reg.e_take (i := 3) (.string TT) rfl (by kernel_rfl) (by kernel_rfl) (by kernel_rfl) (by kernel_rfl) (fun _ _ _ h => h) (reg.wanted_of 2 false 44 rfl (by kernel_rfl) (by simp [Act.put, hsz])) (hM.ls (by simp)) (fun W hW => by simp [execOp, go_sem, Act.put, hsz, s1, s2, s5, s6, s8]) ?_
      refine reg.e_take (i := 4) (.int .i64 4) rfl (by kernel_rfl) (by kernel_rfl) (by kernel_rfl) (by kernel_rfl) (fun _ _ _ h => h) (reg.wanted_of 2 false 44 rfl (by kernel_rfl) (by simp [Act.put, hsz])) (hM.ls (by simp)) (fun W hW => by simp [execOp, go_sem, Act.put, hsz, s1, s2, s5, s6, s8, hTz]) ?_
      refine reg.e_take (i := 5) (.bool false) rfl (by kernel_rfl) (by kernel_rfl) (by kernel_rfl) (by kernel_rfl) (fun _ _ _ h => h) (reg.wanted_of 2 false 44 rfl (by kernel_rfl) (by simp [Act.put, hsz])) (hM.ls (by simp)) (fun W hW => by simp [execOp, go_sem, Act.put, hsz, s1, s2, s5, s6, s8]) ?_
      refine reg.e_take (i := 6) (.bool false) rfl (by kernel_rfl) (by kernel_rfl) (by kernel_rfl) (by kernel_rfl) (fun _ _ _ h => h) (reg.wanted_none rfl) (hM.ls (by simp)) (fun W hW => by simp [execOp, go_sem, Act.put, hsz, s1, s2, s5, s6, s8]) ?_
      refine reg.e_take (i := 7) (.bool false) rfl (by kernel_rfl) (by kernel_rfl) (by kernel_rfl) (by kernel_rfl) (fun _ _ _ h => h) (reg.wanted_none rfl) (hM.ls (by simp)) (fun W hW => by simp [execOp, go_sem, Act.put, hsz, s1, s2, s5, s6, s8]) ?_
      refine reg.e_take (i := 8) (.string SS) rfl (by kernel_rfl) (by kernel_rfl) (by kernel_rfl) (by kernel_rfl) (fun _ _ _ h => h) (reg.wanted_of 7 false 49 rfl (by kernel_rfl) (by simp [Act.put, hsz])) (hM.ls (by simp)) (fun W hW => by simp [execOp, go_sem, Act.put, hsz, s1, s2, s5, s6, s8]) ?_
      refine reg.e_take (i := 9) (.int .i64 ((m1 : Int) + 1)) rfl (by kernel_rfl) (by kernel_rfl) (by kernel_rfl) (by kernel_rfl) (fun _ _ _ h => h) (reg.wanted_of 7 false 49 rfl (by kernel_rfl) (by simp [Act.put, hsz])) (hM.ls (by simp)) (fun W hW => by simp [execOp, go_sem, Act.put, hsz, s1, s2, s5, s6, s8, hSz]) ?_
      refine reg.e_take (i := 10) (.pointer (some ⟨zh, 0, none⟩)) rfl (by kernel_rfl) (by kernel_rfl) (by kernel_rfl) (by kernel_rfl) (fun _ _ _ h => h) (reg.wanted_of 7 false 49 rfl (by kernel_rfl) (by simp [Act.put, hsz])) (hM.ls (by simp)) (fun W hW => by simp [execOp, go_sem, Act.put, hsz, s1, s2, s5, s6, s8]) ?_
      refine reg.e_take (i := 11) (.int .i64 c) rfl (by kernel_rfl) (by kernel_rfl) (by kernel_rfl) (by kernel_rfl) (fun _ _ _ h => h) (reg.wanted_of 7 false 49 rfl (by kernel_rfl) (by simp [Act.put, hsz])) (hM.ls (by simp)) (fun W hW => ex_get rfl (by simp [go_sem, Act.put, hsz, s1, s2, s5, s6, s8]) hW.at0 H0.out) ?_
      refine reg.e_take (i := 12) (.int .i64 (m1 : Int)) rfl (by kernel_rfl) (by kernel_rfl) (by kernel_rfl) (by kernel_rfl) (fun _ _ _ h => h) (reg.wanted_of 7 false 49 rfl (by kernel_rfl) (by simp [Act.put, hsz])) (hM.ls (by simp)) (fun W hW => by simp [execOp, go_sem, Act.put, hsz, s1, s2, s5, s6, s8, hw4]) ?_
      refine reg.e_take (i := 13) (.int .i64 ((m1 : Int) + 1)) rfl (by kernel_rfl) (by kernel_rfl) (by kernel_rfl) (by kernel_rfl) (fun _ _ _ h => h) (reg.wanted_of 7 false 49 rfl (by kernel_rfl) (by simp [Act.put, hsz])) (hM.ls (by simp)) (fun W hW => by simp [execOp, go_sem, Act.put, hsz, s1, s2, s5, s6, s8, hw5]) ?_
      refine reg.e_take (i := 14) (.bool false) rfl (by kernel_rfl) (by kernel_rfl) (by kernel_rfl) (by kernel_rfl) (fun _ _ _ h => h) (reg.wanted_of 7 false 49 rfl (by kernel_rfl) (by simp [Act.put, hsz])) (hM.ls (by simp)) (fun W hW => by simp [execOp, go_sem, Act.put, hsz, s1, s2, s5, s6, s8]) ?_
      refine reg.e_take (i := 15) (.bool false) rfl (by kernel_rfl) (by kernel_rfl) (by kernel_rfl) (by kernel_rfl) (fun _ _ _ h => h) (reg.wanted_none rfl) (hM.ls (by simp)) (fun W hW => by simp [execOp, go_sem, Act.put, hsz, s1, s2, s5, s6, s8]) ?_
      refine reg.e_take (i := 16) (.bool false) rfl (by kernel_rfl) (by kernel_rfl) (by kernel_rfl) (by kernel_rfl) (fun _ _ _ h => h) (reg.wanted_none rfl) (hM.ls (by simp)) (fun W hW => by simp [execOp, go_sem, Act.put, hsz, s1, s2, s5, s6, s8]) ?_
      refine reg.e_take (i := 17) (.string SS) rfl (by kernel_rfl) (by kernel_rfl) (by kernel_rfl) (by kernel_rfl) (fun _ _ _ h => h) (reg.wanted_of 16 false 58 rfl (by kernel_rfl) (by simp [Act.put, hsz])) (hM.ls (by simp)) (fun W hW => by simp [execOp, go_sem, Act.put, hsz, s1, s2, s5, s6, s8]) ?_
      refine reg.e_take (i := 18) (.int .i64 (k : Int)) rfl (by kernel_rfl) (by kernel_rfl) (by kernel_rfl) (by kernel_rfl) (fun _ _ _ h => h) (reg.wanted_of 16 false 58 rfl (by kernel_rfl) (by simp [Act.put, hsz])) (hM.ls (by simp)) (fun W hW => by simp [execOp, go_sem, Act.put, hsz, s1, s2, s5, s6, s8]) ?_
      refine reg.e_take (i := 19) (.int .i64 (j : Int)) rfl (by kernel_rfl) (by kernel_rfl) (by kernel_rfl) (by kernel_rfl) (fun _ _ _ h => h) (reg.wanted_of 16 false 58 rfl (by kernel_rfl) (by simp [Act.put, hsz])) (hM.ls (by simp)) (fun W hW => by simp [execOp, go_sem, Act.put, hsz, s1, s2, s5, s6, s8, hwj2]) ?_
      refine reg.e_take (i := 20) (.int .u8 x) rfl (by kernel_rfl) (by kernel_rfl) (by kernel_rfl) (by kernel_rfl) (fun _ _ _ h => h) (reg.wanted_of 16 false 58 rfl (by kernel_rfl) (by simp [Act.put, hsz])) (hM.ls (by simp)) (fun W hW => by simp [execOp, go_sem, Act.put, hsz, s1, s2, s5, s6, s8, hxs]) ?_
      refine reg.e_take (i := 21) (.int .i64 (k : Int)) rfl (by kernel_rfl) (by kernel_rfl) (by kernel_rfl) (by kernel_rfl) (fun _ _ _ h => h) (reg.wanted_of 16 false 58 rfl (by kernel_rfl) (by simp [Act.put, hsz])) (hM.ls (by simp)) (fun W hW => by simp [execOp, go_sem, Act.put, hsz, s1, s2, s5, s6, s8]) ?_
      refine reg.e_take (i := 22) (.int .i64 (rr : Int)) rfl (by kernel_rfl) (by kernel_rfl) (by kernel_rfl) (by kernel_rfl) (fun _ _ _ h => h) (reg.wanted_of 16 false 58 rfl (by kernel_rfl) (by simp [Act.put, hsz])) (hM.ls (by simp)) (fun W hW => by simp [execOp, go_sem, Act.put, hsz, s1, s2, s5, s6, s8, hwr]) ?_
      refine reg.e_take (i := 23) (.int .u8 X) rfl (by kernel_rfl) (by kernel_rfl) (by kernel_rfl) (by kernel_rfl) (fun _ _ _ h => h) (reg.wanted_of 16 false 58 rfl (by kernel_rfl) (by simp [Act.put, hsz])) (hM.ls (by simp)) (fun W hW => by simp [execOp, go_sem, Act.put, hsz, s1, s2, s5, s6, s8, hX]) ?_
      refine reg.e_take (i := 24) (.int .u8 1) rfl (by kernel_rfl) (by kernel_rfl) (by kernel_rfl) (by kernel_rfl) (fun _ _ _ h => h) (reg.wanted_of 16 false 58 rfl (by kernel_rfl) (by simp [Act.put, hsz])) (hM.ls (by simp)) (fun W hW => by simp [execOp, go_sem, Act.put, hsz, s1, s2, s5, s6, s8, hand]) ?_
      refine reg.e_take (i := 25) (.bool true) rfl (by kernel_rfl) (by kernel_rfl) (by kernel_rfl) (by kernel_rfl) (fun _ _ _ h => h) (reg.wanted_of 16 false 58 rfl (by kernel_rfl) (by simp [Act.put, hsz])) (hM.ls (by simp)) (fun W hW => by simp [execOp, go_sem, Act.put, hsz, s1, s2, s5, s6, s8]) ?_
      refine reg.e_take (i := 26) (.string TT) rfl (by kernel_rfl) (by kernel_rfl) (by kernel_rfl) (by kernel_rfl) (fun _ _ _ h => h) (reg.wanted_of 16 false 58 rfl (by kernel_rfl) (by simp [Act.put, hsz])) (hM.ls (by simp)) (fun W hW => by simp [execOp, go_sem, Act.put, hsz, s1, s2, s5, s6, s8]) ?_
      refine reg.e_take (i := 27) (.int .u8 y) rfl (by kernel_rfl) (by kernel_rfl) (by kernel_rfl) (by kernel_rfl) (fun _ _ _ h => h) (reg.wanted_of 16 false 58 rfl (by kernel_rfl) (by simp [Act.put, hsz])) (hM.ls (by simp)) (fun W hW => by simp [execOp, go_sem, Act.put, hsz, s1, s2, s5, s6, s8, hx2]) ?_
      refine reg.e_take (i := 28) (.bool true) rfl (by kernel_rfl) (by kernel_rfl) (by kernel_rfl) (by kernel_rfl) (fun _ _ _ h => h) (reg.wanted_of 16 false 58 rfl (by kernel_rfl) (by simp [Act.put, hsz])) (hM.ls (by simp)) (fun W hW => by simp [execOp, go_sem, Act.put, hsz, s1, s2, s5, s6, s8, hyne]) ?_
      refine reg.e_take (i := 29) (.bool true) rfl (by kernel_rfl) (by kernel_rfl) (by kernel_rfl) (by kernel_rfl) (fun _ _ _ h => h) (reg.wanted_of 16 false 58 rfl (by kernel_rfl) (by simp [Act.put, hsz])) (hM.ls (by simp)) (fun W hW => by simp [execOp, go_sem, Act.put, hsz, s1, s2, s5, s6, s8]) ?_
      refine reg.e_pass (i := 30) rfl (by kernel_rfl) (by kernel_rfl) (by kernel_rfl) (by kernel_rfl) (fun _ _ _ h => h) (reg.unwanted_of 29 false 71 rfl (by kernel_rfl) (by simp [Act.put, hsz])) (hM.ls (by simp)) ?_
      refine reg.e_pass (i := 31) rfl (by kernel_rfl) (by kernel_rfl) (by kernel_rfl) (by kernel_rfl) (fun _ _ _ h => h) (reg.unwanted_of 29 false 71 rfl (by kernel_rfl) (by simp [Act.put, hsz])) (hM.ls (by simp)) ?_
      refine reg.e_pass (i := 32) rfl (by kernel_rfl) (by kernel_rfl) (by kernel_rfl) (by kernel_rfl) (fun _ _ _ h => h) (reg.unwanted_of 29 false 71 rfl (by kernel_rfl) (by simp [Act.put, hsz])) (hM.ls (by simp)) ?_
      refine reg.e_take (i := 33) (.bool true) rfl (by kernel_rfl) (by kernel_rfl) (by kernel_rfl) (by kernel_rfl) (fun _ _ _ h => h) (reg.wanted_of 16 false 58 rfl (by kernel_rfl) (by simp [Act.put, hsz])) (hM.ls (by simp)) (fun W hW => by simp [execOp, go_sem, Act.put, hsz, s1, s2, s5, s6, s8]) ?_
      refine reg.e_take (i := 34) (.bool false) rfl (by kernel_rfl) (by kernel_rfl) (by kernel_rfl) (by kernel_rfl) (fun _ _ _ h => h) (reg.wanted_of 16 false 58 rfl (by kernel_rfl) (by simp [Act.put, hsz])) (hM.ls (by simp)) (fun W hW => by simp [execOp, go_sem, Act.put, hsz, s1, s2, s5, s6, s8]) ?_
      refine reg.e_take (i := 35) (.bool false) rfl (by kernel_rfl) (by kernel_rfl) (by kernel_rfl) (by kernel_rfl) (fun _ _ _ h => h) (reg.wanted_none rfl) (hM.ls (by simp)) (fun W hW => by simp [execOp, go_sem, Act.put, hsz, s1, s2, s5, s6, s8]) ?_
      refine reg.e_done (by kernel_rfl) ?_ _
      subst ha0
      clear hsz s1 s2 s5 s6 s8
      go_simp
      repeat' (first | go_values | go_skip | go_guarded | go_step | go_upon | (simp only [Int.not_lt, Int.not_le] at *; go_simp))
      go_meet
      case rel => exact ⟨rfl, hM⟩
  case rest =>
  obtain ⟨rfl, HX⟩ := hcut
  rename World => uy
  replace hM := HX.out
  clear HX hw4 hw5 hwj hwj2 hwr hand hx2 hx3 hxs hX hX0 hX1 hpw hj hr hr8 hjm hx0 hx1 hSz hTz hch hk16 hp1 hp2 HL HC HE H0 d1 d2
  have hb3 := bld_3
  repeat' (first | go_values | go_skip | go_guarded | go_step | go_upon | (simp only [Int.not_lt, Int.not_le] at *; go_simp))
  go_loopw [6, 9] (fun ev kv wr => ∃ kk : Nat, ev = .int .i64 0 ∧ kv = .int .i64 (kk : Int) ∧ 1 ≤ kk ∧ (kk : Int) ≤ c + 1 ∧ Hid (∃ G, hub.Way c kk G ∧ Mm w wr [(zh, 26, G)])) (fun _ kv _ => 17 - (intOf kv).toNat)
  case atStart => exact ⟨1, rfl, rfl, by omega, by omega, F, HWay.out, hM⟩
  case round =>
    clear hM HWay
    obtain ⟨kk, rfl, rfl, hkk1, hkk2, HA⟩ := hrel
    obtain ⟨G, hW, hM⟩ := HA.out
    clear HA
    have HW : Hid (hub.Way c kk G) := hW
    have HG0 : Hid (G[0]? = some c) := by show _ = _; rw [← hW.cn]; exact cl_at (by rw [hW.ok.len]; omega)
    have HGL : Hid (G.length = 33) := hW.ok.len
    have HGC : Hid (cut G 0 33 = G) := cut_all hW.ok.len
    have HGE : Hid (0 + 33 ≤ G.length) := by show 0 + 33 ≤ _; rw [hW.ok.len]; omega
    by_cases hend : ¬ (kk : Int) ≤ c
    · have hke : (kk : Int) = c + 1 := by omega
      have hnone : cgT G = List.replicate (m1 + 1) 0 := cgT_none hW.ok (by rw [hW.cn]; exact hm) (fun j hj => hW.none j (by rw [hW.cn] at hj; omega))
      have HCg : Hid (∀ u, Calls Try.prog 17 #[ag G] u fun e w' => e = .returned (.tuple #[.string (strOfNums (List.replicate (m1 + 1) 0)), .int .i64 0]) ∧ Below u.heap.size u w') := fun u => by
        have := changes_any G u hW.ok.hb
        rw [hnone, hW.ok.chk] at this
        exact this
      clear hW HW hnone hke
      rcases (by omega : m1 = 0 ∨ m1 = 1) with rfl | rfl
      · have HCg0 : Hid (∀ u, Calls Try.prog 17 #[ag G] u fun e w' => e = .returned (.tuple #[.string ⟨#[0]⟩, .int .i64 0]) ∧ Below u.heap.size u w') := HCg.out
        have hsl : ∀ W : World, (Instr.slice 9 (.string ⟨#[0, 0]⟩) none (some (.int .i64 1)) none).run Try.prog W = .ok (.string ⟨#[0]⟩) W := fun W => by kernel_rfl
        clear HCg
        repeat' (first | (go_big_may; first | (refine a_get rfl rfl rfl hM.at0 HG0.out ?_) | (refine a_load rfl rfl row_hub rfl hM.at0 HGE.out HGC.out ?_)) | go_values | go_skip | go_guarded | go_step | go_upon | (simp only [Int.not_lt, Int.not_le] at *; go_simp))
        refine (HCg0.out _).mono ?_
        rintro r u ⟨rfl, hv⟩
        replace hM := hM.call hv
        clear hv
        repeat' (first | (go_big_may; first | (refine a_get rfl rfl rfl hM.at0 HG0.out ?_)) | go_values | go_skip | go_guarded | go_step | go_upon | (simp only [Int.not_lt, Int.not_le] at *; go_simp))
        go_ret
        exact ⟨rfl, hM.below⟩
      · have HCg0 : Hid (∀ u, Calls Try.prog 17 #[ag G] u fun e w' => e = .returned (.tuple #[.string ⟨#[0, 0]⟩, .int .i64 0]) ∧ Below u.heap.size u w') := HCg.out
        have hsl : ∀ W : World, (Instr.slice 9 (.string ⟨#[0, 0]⟩) none (some (.int .i64 2)) none).run Try.prog W = .ok (.string ⟨#[0, 0]⟩) W := fun W => by kernel_rfl
        clear HCg
        repeat' (first | (go_big_may; first | (refine a_get rfl rfl rfl hM.at0 HG0.out ?_) | (refine a_load rfl rfl row_hub rfl hM.at0 HGE.out HGC.out ?_)) | go_values | go_skip | go_guarded | go_step | go_upon | (simp only [Int.not_lt, Int.not_le] at *; go_simp))
        refine (HCg0.out _).mono ?_
        rintro r u ⟨rfl, hv⟩
        replace hM := hM.call hv
        clear hv
        repeat' (first | (go_big_may; first | (refine a_get rfl rfl rfl hM.at0 HG0.out ?_)) | go_values | go_skip | go_guarded | go_step | go_upon | (simp only [Int.not_lt, Int.not_le] at *; go_simp))
        go_ret
        exact ⟨rfl, hM.below⟩
    have hle : (kk : Int) ≤ c := by omega
    have HW2 : Hid (hub.Way2 c kk 0 G) := hW.start (by omega)
    clear hW HW
    repeat' (first | (go_big_may; first | (refine a_get rfl rfl rfl hM.at0 HG0.out ?_) | (refine a_build rfl rfl hb3 (by simp [Act.eval]) ?_)) | go_values | go_skip | go_guarded | go_step | go_upon | (simp only [Int.not_lt, Int.not_le] at *; go_simp))
    clear HG0 HGL HGC HGE
    go_loopw [6, 11, 85] (fun ev _ iv wr2 => ∃ i : Nat, ev = .int .i64 0 ∧ iv = .int .i64 (i : Int) ∧ i ≤ 3 ∧ Hid (∃ G, hub.Way2 c kk i G ∧ Mm w wr2 [(zh, 26, G)])) (fun _ _ iv _ => 3 - (intOf iv).toNat)
    case atStart => exact ⟨0, rfl, rfl, by omega, G, HW2.out, hM⟩
    case round =>
      clear hM HW2
      obtain ⟨i, rfl, rfl, hi3, HA⟩ := hrel
      obtain ⟨G', hW, hM⟩ := HA.out
      clear HA
      by_cases hi : ¬ i < 3
      · have hi4 : i = 3 := by omega
        subst hi4
        have HW : Hid (hub.Way c (kk + 1) G') := hW.done
        clear hW
        repeat' (first | go_values | go_skip | go_guarded | go_step | go_upon | (simp only [Int.not_lt, Int.not_le] at *; go_simp))
        go_roundw
        case rel => exact ⟨kk + 1, by go_num, by omega, by omega, G', HW.out, hM⟩
        case measure => simp [intOf]; omega
      have hi : i < 3 := by omega
      have HGL : Hid (G'.length = 33) := hW.way.ok.len
      have HGC : Hid (cut G' 0 33 = G') := cut_all hW.way.ok.len
      have HGE : Hid (0 + 33 ≤ G'.length) := by show 0 + 33 ≤ _; rw [hW.way.ok.len]; omega
      have HW3 : Hid (hub.Way2 c kk (i + 1) (setP G' kk (dnS false (clrV i) (sta G' kk)) (dnC false (clrV i) (chg G' kk)))) := hW.step (by omega) hle hi
      have HQ : Hid (∀ u, Calls Try.prog 15 #[ag G', .string (wrT 10 (clrV i) kk 0)] u fun e w' => e = .returned (.tuple #[ag (setP G' kk (dnS false (clrV i) (sta G' kk)) (dnC false (clrV i) (chg G' kk))), .string ⟨#[]⟩, .int .i64 0]) ∧ Below u.heap.size u w') := fun u => clr_ask hW (by omega) hle hi u
      have HAk : Hid (∀ u : World, Calls Try.prog 21 #[.int .i64 10, .int .i64 (clrV i), .int .i64 (kk : Int), .int .i64 0] u fun e w' => e = .returned (.string (wrT 10 (clrV i) kk 0)) ∧ Below u.heap.size u w') := fun u => asked_any 10 (clrV i) kk 0 (by omega) u
      have hix : ∀ W, (Instr.index 44 (ag [16, 17, 20]) (.int .i64 (i : Int))).run Try.prog W = .ok (.int .i64 (clrV i)) W := fun W => row3 _ i _ (by rcases (by omega : i = 0 ∨ i = 1 ∨ i = 2) with rfl | rfl | rfl <;> rfl) hi W
      have HL2 : Hid ((setP G' kk (dnS false (clrV i) (sta G' kk)) (dnC false (clrV i) (chg G' kk))).length = 33) := HW3.out.way.ok.len
      clear hW
      generalize setP G' kk (dnS false (clrV i) (sta G' kk)) (dnC false (clrV i) (chg G' kk)) = G2 at *
      generalize wrT 10 (clrV i) kk 0 = tq at *
      generalize clrV i = v at *
      have hi2 : (i : Int) < 3 := by omega
      repeat' (first | go_values | go_skip | go_guarded | go_step | go_upon | (simp only [Int.not_lt, Int.not_le] at *; go_simp))
      go_simp
      refine reg.wp_abs (fun a0 => a0.tmps.size = 116 ∧ (∀ h, a0.tmps[2]'h = .pointer (some ⟨zh, 0, none⟩)) ∧ (∀ h, a0.tmps[9]'h = .int .i64 (kk : Int)) ∧ (∀ h, a0.tmps[11]'h = .int .i64 v)) ⟨rfl, fun _ => rfl, fun _ => rfl, fun _ => rfl⟩ ?_
      rintro a0 ⟨hsz, s2, s9, s11⟩ ha0
      refine reg.wp_region_E (S := fun W => Ls W [(zh, 26, G')]) (E := fun i => i == 9) (by kernel_rfl) ?_
      replace hM := hM.drew
      refine reg.e_take (i := 0) (ag G') rfl (by kernel_rfl) (by kernel_rfl) (by kernel_rfl) (by kernel_rfl) (fun _ _ _ h => h) (reg.wanted_none rfl) (hM.ls (by simp)) (fun W hW => ex_load rfl row_hub (by simp [go_sem, Act.put, hsz, s2, s9, s11]) hW.at0 HGE.out HGC.out) ?_
      refine reg.e_take (i := 1) (.int .i64 v) rfl (by kernel_rfl) (by kernel_rfl) (by kernel_rfl) (by kernel_rfl) (fun _ _ _ h => h) (reg.wanted_none rfl) (hM.ls (by simp)) (fun W hW => by simp [execOp, go_sem, Act.put, hsz, s2, s9, s11]) ?_
      refine reg.e_take (i := 2) (.int .i64 (kk : Int)) rfl (by kernel_rfl) (by kernel_rfl) (by kernel_rfl) (by kernel_rfl) (fun _ _ _ h => h) (reg.wanted_none rfl) (hM.ls (by simp)) (fun W hW => by simp [execOp, go_sem, Act.put, hsz, s2, s9, s11]) ?_
      refine reg.e_one 3 (by kernel_rfl) rfl ?_
      refine reg.r_call (i := 3) 21 #[.int .i64 10, .int .i64 v, .int .i64 (kk : Int), .int .i64 0] rfl (reg.wanted_none rfl) (by simp [execOp, go_sem, Act.put, hsz, s2, s9, s11]) ((HAk.out _).mono ?_)
      rintro re ru1 ⟨rfl, rhv⟩
      replace hM := hM.call rhv
      clear rhv
      refine ⟨_, rfl, hM.ls (by simp), ?_⟩
      refine reg.e_one 4 (by kernel_rfl) rfl ?_
      refine reg.r_call (i := 4) 15 #[ag G', .string tq] rfl (reg.wanted_none rfl) (by simp [execOp, go_sem, Act.put, hsz, s2, s9, s11]) ((HQ.out _).mono ?_)
      rintro re ru2 ⟨rfl, rhv⟩
      replace hM := hM.call rhv
      clear rhv
      refine ⟨_, rfl, hM.ls (by simp), ?_⟩
      refine reg.e_take (i := 5) (.tuple #[ag G2, .string ⟨#[]⟩, .int .i64 0]) rfl (by kernel_rfl) (by kernel_rfl) (by kernel_rfl) (by kernel_rfl) (fun _ _ _ h => h) (reg.wanted_none rfl) (hM.ls (by simp)) (fun W hW => by simp [execOp, go_sem, Act.put, hsz, s2, s9, s11]) ?_
      refine reg.e_take (i := 6) (ag G2) rfl (by kernel_rfl) (by kernel_rfl) (by kernel_rfl) (by kernel_rfl) (fun _ _ _ h => h) (reg.wanted_none rfl) (hM.ls (by simp)) (fun W hW => by simp [execOp, go_sem, Act.put, hsz, s2, s9, s11]) ?_
      refine reg.e_take0 (i := 7) (.string ⟨#[]⟩) rfl (by kernel_rfl) (by kernel_rfl) (by kernel_rfl) rfl (fun _ _ _ h => h) (reg.wanted_none rfl) (hM.ls (by simp)) (fun W => by simp [execOp, go_sem, Act.put, hsz, s2, s9, s11]) ?_
      refine reg.e_take0 (i := 8) (.int .i64 0) rfl (by kernel_rfl) (by kernel_rfl) (by kernel_rfl) rfl (fun _ _ _ h => h) (reg.wanted_none rfl) (hM.ls (by simp)) (fun W => by simp [execOp, go_sem, Act.put, hsz, s2, s9, s11]) ?_
      refine reg.e_leave 9 (by kernel_rfl) rfl ?_
      refine r_fill (i := 9) rfl (reg.wanted_none rfl) rfl row_hub (by simp [go_sem, Act.put, hsz, s2, s9, s11]) (by simp [go_sem, Act.put, hsz, s2, s9, s11]) hM.at0 HL2.out HGL.out ?_
      intro ru3 rhv rhc
      replace hM := hM.put0 rhc rhv
      clear rhc rhv
      refine reg.t_take (i := 10) (.int .i64 0) rfl (by kernel_rfl) (by kernel_rfl) (by kernel_rfl) (fun _ _ _ h => h) (reg.wanted_none rfl) (fun W => by simp [execOp, go_sem, Act.put, hsz, s2, s9, s11]) ?_
      refine wpAnyH_done (by kernel_rfl) ?_ _
      subst ha0
      clear hsz s2 s9 s11
      go_simp
      repeat' (first | go_values | go_skip | go_guarded | go_step | go_upon | (simp only [Int.not_lt, Int.not_le] at *; go_simp))
      go_roundw
      case rel => exact ⟨i + 1, by go_num, by omega, G2, HW3.out, hM⟩
      case measure => simp [intOf]; omega
end Go.Proofs.Ytdnmjeiljpdmcaa.hubTold
