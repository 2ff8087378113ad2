/- greet: what try and begin answer. -/
import Derived.Test.YtonheibhbilhhaaGreT
import Derived.Test.YtonheibhbilhhaaGreF
import Derived.Test.YtonheibhbilhhaaZAp
import Derived.Test.YtonheibhbilhhaaZAl
namespace Go.Proofs.Ytonheibhbilhhaa.greet
open Go Go.RowKit Go.PlainAid Go.Proofs.Ytonheibhbilhhaa.lane Go.Proofs.Ytonheibhbilhhaa.desc Go.Proofs.Ytonheibhbilhhaa.gadget
set_option linter.unusedVariables false
set_option linter.unusedSimpArgs false
set_option maxRecDepth 100000

theorem ret_ctt {fn : Func} {p i j : Tmp} {t : TypeId} {tmps : Array Value} {w : World} {B : Nat} {v v1 v2 : Value} (h : fn.results = #[.cell p t, .tmp i, .tmp j]) (hp : tmps.getD p undef = .pointer (some ⟨B, 0, none⟩)) (hl : (loadVar t ⟨B, 0, none⟩).run Try.prog w = .ok v w)
    (h1 : tmps.getD i undef = v1) (h2 : tmps.getD j undef = v2) : (results fn tmps).run Try.prog w = .ok (.tuple #[v, v1, v2]) w := ret_3 h hp hl h1 h2
theorem ret_cctt {fn : Func} {p q i j : Tmp} {t t' : TypeId} {tmps : Array Value} {w : World} {B C : Nat} {v v' v1 v2 : Value} (h : fn.results = #[.cell p t, .cell q t', .tmp i, .tmp j]) (hp : tmps.getD p undef = .pointer (some ⟨B, 0, none⟩)) (hl : (loadVar t ⟨B, 0, none⟩).run Try.prog w = .ok v w)
    (hq : tmps.getD q undef = .pointer (some ⟨C, 0, none⟩)) (hl' : (loadVar t' ⟨C, 0, none⟩).run Try.prog w = .ok v' w)
    (h1 : tmps.getD i undef = v1) (h2 : tmps.getD j undef = v2) : (results fn tmps).run Try.prog w = .ok (.tuple #[v, v', v1, v2]) w := by
  have hp' : tmps[p]?.getD undef = .pointer (some ⟨B, 0, none⟩) := by simpa using hp
  have hq' : tmps[q]?.getD undef = .pointer (some ⟨C, 0, none⟩) := by simpa using hq
  have h1' : tmps[i]?.getD undef = v1 := by simpa using h1
  have h2' : tmps[j]?.getD undef = v2 := by simpa using h2
  simp [results, h, hp', hq', asAddr, hl, hl', h1', h2']
abbrev anV (X : Ans) : Value := .tuple #[ag (gdl X.s X.a X.h), .string X.t, .int .i64 X.e]
set_option maxHeartbeats 4000000 in
theorem try_any (d : Dv) (c : Cf) (L : FL) (v : Value) (T : List (List Int)) (tv : Value) (s a h : Int) (q : ByteArray) (f : Int) (w : World) (hs : Shr w c L v T tv) (hq : q.size ≤ maxLen) :
    Calls Try.prog 38 #[ag (shl d c v tv), ag (gdl s a h), .string q, .int .i64 f] w fun e w' => e = .returned (anV (tryV d c T s a h q f)) ∧ Below w.heap.size w w' := by
  have HC : Hid (∀ u, Below w.heap.size w u → Calls Try.prog 68 #[ag (shl d c v tv), ag (gdl s a h), .string q] u fun e w' => e = .returned (anV (ctl d c T s a h q)) ∧ Below u.heap.size u w') := fun u hu => control_any d c L v T tv s a h q u (hs.below hu) hq
  have hM := Mm.nil w
  clear hs hq
  unfold tryV
  by_cases h1 : f = 1
  case pos =>
    subst h1
    rw [if_pos rfl]
    go_enter Try.func38, Try.ntmps38
    repeat' (first | (go_big_may; first | (refine v_box rfl rfl rfl ?_; intro u zs hN; replace hM := hM.new hN; clear hN) | (refine v_box rfl rfl rfl ?_; intro u zd hN; replace hM := hM.new hN; clear hN) | (refine v_alloc rfl zer_gadget rfl ?_; intro u zr hN; replace hM := hM.new hN; clear hN) | (refine v_load rfl rfl row_sheet rfl hM.at2 (Nat.le_refl _) (cut_all rfl) ?_) | (refine v_load rfl rfl row_gadget rfl hM.at1 (Nat.le_refl _) (cut_all rfl) ?_)) | go_values | go_skip | go_guarded | go_step | go_upon | (simp only [Int.not_lt, Int.not_le] at *; go_simp))
    refine (HC.out _ hM.below).mono ?_
    rintro e u1 ⟨rfl, hb⟩
    replace hM := hM.call hb
    clear hb
    repeat' (first | (go_big_may; first | (refine v_fill rfl rfl row_gadget rfl rfl hM.at0 (gdl_vs _ _ _) rfl ?_; intro u hv hc; replace hM := hM.put0 hc hv; clear hv hc)) | go_values | go_skip | go_guarded | go_step | go_upon | (simp only [Int.not_lt, Int.not_le] at *; go_simp))
    exact bodyPost_ret (ret_3 rfl rfl (ld_var row_gadget hM.at0 rfl) rfl rfl) rfl ⟨rfl, hM.below⟩
  rw [if_neg h1]
  have e1 : (f == 1) = false := by simpa using h1
  clear h1
  by_cases h3 : f = 3
  case pos =>
    subst h3
    rw [if_pos rfl]
    go_enter Try.func38, Try.ntmps38
    repeat' (first | (go_big_may; first | (refine v_box rfl rfl rfl ?_; intro u zs hN; replace hM := hM.new hN; clear hN) | (refine v_box rfl rfl rfl ?_; intro u zd hN; replace hM := hM.new hN; clear hN) | (refine v_alloc rfl zer_gadget rfl ?_; intro u zr hN; replace hM := hM.new hN; clear hN) | (refine v_load rfl rfl row_sheet rfl hM.at2 (Nat.le_refl _) (cut_all rfl) ?_) | (refine v_load rfl rfl row_gadget rfl hM.at1 (Nat.le_refl _) (cut_all rfl) ?_)) | go_values | go_skip | go_guarded | go_step | go_upon | (simp only [Int.not_lt, Int.not_le] at *; go_simp))
    refine (HC.out _ hM.below).mono ?_
    rintro e u1 ⟨rfl, hb⟩
    replace hM := hM.call hb
    clear hb
    repeat' (first | (go_big_may; first | (refine v_fill rfl rfl row_gadget rfl rfl hM.at1 (gdl_vs _ _ _) rfl ?_; intro u hv hc; replace hM := hM.put1 hc hv; clear hv hc) | (refine v_load rfl rfl row_gadget rfl hM.at1 (Nat.le_refl _) (cut_all rfl) ?_) | (refine v_fill rfl rfl row_gadget rfl rfl hM.at0 (gdl_vs _ _ _) rfl ?_; intro u hv hc; replace hM := hM.put0 hc hv; clear hv hc)) | go_values | go_skip | go_guarded | go_step | go_upon | (simp only [Int.not_lt, Int.not_le] at *; go_simp))
    exact bodyPost_ret (ret_3 rfl rfl (ld_var row_gadget hM.at0 rfl) rfl rfl) rfl ⟨rfl, hM.below⟩
  rw [if_neg h3]
  have e3 : (f == 3) = false := by simpa using h3
  clear h3 HC
  by_cases h4 : f = 4
  case pos =>
    subst h4
    rw [if_pos rfl]
    go_enter Try.func38, Try.ntmps38
    repeat' (first | (go_big_may; first | (refine v_box rfl rfl rfl ?_; intro u zs hN; replace hM := hM.new hN; clear hN) | (refine v_box rfl rfl rfl ?_; intro u zd hN; replace hM := hM.new hN; clear hN) | (refine v_alloc rfl zer_gadget rfl ?_; intro u zr hN; replace hM := hM.new hN; clear hN) | (refine v_load rfl rfl row_gadget rfl hM.at1 (Nat.le_refl _) (cut_all rfl) ?_) | (refine v_fill rfl rfl row_gadget rfl rfl hM.at0 (gdl_vs _ _ _) rfl ?_; intro u hv hc; replace hM := hM.put0 hc hv; clear hv hc)) | go_values | go_skip | go_guarded | go_step | go_upon | (simp only [Int.not_lt, Int.not_le] at *; go_simp))
    exact bodyPost_ret (ret_3 rfl rfl (ld_var row_gadget hM.at0 rfl) rfl rfl) rfl ⟨rfl, hM.below⟩
  rw [if_neg h4]
  have e4 : (f == 4) = false := by simpa using h4
  clear h4
  by_cases h5 : f = 5
  case pos =>
    subst h5
    rw [if_pos rfl]
    go_enter Try.func38, Try.ntmps38
    repeat' (first | (go_big_may; first | (refine v_box rfl rfl rfl ?_; intro u zs hN; replace hM := hM.new hN; clear hN) | (refine v_box rfl rfl rfl ?_; intro u zd hN; replace hM := hM.new hN; clear hN) | (refine v_alloc rfl zer_gadget rfl ?_; intro u zr hN; replace hM := hM.new hN; clear hN) | (refine v_load rfl rfl row_gadget rfl hM.at1 (Nat.le_refl _) (cut_all rfl) ?_) | (refine v_fill rfl rfl row_gadget rfl rfl hM.at0 (gdl_vs _ _ _) rfl ?_; intro u hv hc; replace hM := hM.put0 hc hv; clear hv hc)) | go_values | go_skip | go_guarded | go_step | go_upon | (simp only [Int.not_lt, Int.not_le] at *; go_simp))
    exact bodyPost_ret (ret_3 rfl rfl (ld_var row_gadget hM.at0 rfl) rfl rfl) rfl ⟨rfl, hM.below⟩
  rw [if_neg h5]
  have e5 : (f == 5) = false := by simpa using h5
  clear h5
  go_enter Try.func38, Try.ntmps38
  repeat' (first | (go_big_may; first | (refine v_box rfl rfl rfl ?_; intro u zs hN; replace hM := hM.new hN; clear hN) | (refine v_box rfl rfl rfl ?_; intro u zd hN; replace hM := hM.new hN; clear hN) | (refine v_alloc rfl zer_gadget rfl ?_; intro u zr hN; replace hM := hM.new hN; clear hN) | (refine v_load rfl rfl row_gadget rfl hM.at1 (Nat.le_refl _) (cut_all rfl) ?_) | (refine v_fill rfl rfl row_gadget rfl rfl hM.at0 (gdl_vs _ _ _) rfl ?_; intro u hv hc; replace hM := hM.put0 hc hv; clear hv hc)) | go_values | go_skip | go_guarded | go_step | go_upon | (simp only [Int.not_lt, Int.not_le] at *; go_simp))
  exact bodyPost_ret (ret_3 rfl rfl (ld_var row_gadget hM.at0 rfl) rfl rfl) rfl ⟨rfl, hM.below⟩
set_option maxHeartbeats 4000000 in
theorem begin_any (d : Dv) (c : Cf) (L : FL) (v : Value) (T : List (List Int)) (tv : Value) (x : Int) (vF : Value) (F : List Int) (w : World) (hs : Shr w c L v T tv) (hF : Ris w vF F) :
    Calls Try.prog 37 #[ag (shl d c v tv), .int .i64 x, vF] w fun e w' => (∃ g, (begE d c T x F = 0 → g = nwG x) ∧ e = .returned (.tuple #[grV g nilS, .int .i64 (begE d c T x F)])) ∧ Below w.heap.size w w' := by
  have HK : Hid (∀ u, Below w.heap.size w u → Calls Try.prog 66 #[ag (shl d c v tv)] u fun e w' => e = .returned (.int .i64 (chkS d c T)) ∧ Below u.heap.size u w') := fun u hu => check_any d c L v T tv u (hs.below hu)
  have HN : Hid (∀ u, Calls Try.prog 8 #[.int .i64 x] u fun e w' => e = .returned (.tuple #[grV (if adB x = true then nwG x else noGr) nilS, .int .i64 (if adB x = true then 0 else 1)]) ∧ Below u.heap.size u w') := fun u => new_any x u
  have HF : Hid (∀ u, Below w.heap.size w u → Calls Try.prog 67 #[vF] u fun e w' => e = .returned (.int .i64 (ckF F)) ∧ Below u.heap.size u w') := fun u hu => (fates_any vF F u (hF.below hu)).mono fun e w' ⟨h1, h2⟩ => ⟨h1, by rw [h2]; exact Below.refl _ _⟩
  obtain ⟨fa, fc, hvf, _⟩ := hF
  have hM := Mm.nil w
  clear hs
  subst hvf
  by_cases h1 : chkS d c T = 0
  case neg =>
    have HE : Hid (begE d c T x F = chkS d c T) := by show _ = _; unfold begE; rw [if_pos h1]
    have HZ : Hid (¬ chkS d c T = 0) := h1
    have e1 : (chkS d c T != 0) = true := by simpa using h1
    rw [HE.out]
    generalize chkS d c T = z at *
    clear h1 HN HF HE
    go_enter Try.func37, Try.ntmps37
    repeat' (first | (go_big_may; first | (refine v_box rfl rfl rfl ?_; intro u zs hN; replace hM := hM.new hN; clear hN) | (refine v_alloc rfl zer_greeting rfl ?_; intro u za hN; replace hM := hM.new hN; clear hN) | (refine v_load rfl rfl row_sheet rfl hM.at1 (Nat.le_refl _) (cut_all rfl) ?_)) | go_values | go_skip | go_guarded | go_step | go_upon | (simp only [Int.not_lt, Int.not_le] at *; go_simp))
    refine (HK.out _ hM.below).mono ?_
    rintro e u1 ⟨rfl, hb⟩
    replace hM := hM.call hb
    clear hb
    repeat' (first | (go_big_may; first | (refine v_build rfl rfl (bld_gr0) ?hbv ?_; (case hbv => simp [Act.eval, Act.put])) | (refine v_fill rfl rfl row_greeting rfl rfl hM.at0 (grl_vs _ rfl) rfl ?_; intro u hv hc; replace hM := hM.put0 hc hv; clear hv hc)) | go_values | go_skip | go_guarded | go_step | go_upon | (simp only [Int.not_lt, Int.not_le] at *; go_simp))
    exact bodyPost_ret (ret_2 rfl rfl (ld_var row_greeting hM.at0 rfl) rfl) rfl ⟨⟨noGr, fun q => absurd q HZ.out, rfl⟩, hM.below⟩
  rw [h1] at HK
  cases h2 : adB x
  case false =>
    have HE : Hid (begE d c T x F = 1) := by show _ = _; unfold begE; rw [if_neg (fun q => q h1), if_pos h2]
    rw [HE.out]
    rw [h2] at HN
    simp only [Bool.false_eq_true, if_false] at HN
    clear h1 HF HE
    go_enter Try.func37, Try.ntmps37
    repeat' (first | (go_big_may; first | (refine v_box rfl rfl rfl ?_; intro u zs hN; replace hM := hM.new hN; clear hN) | (refine v_alloc rfl zer_greeting rfl ?_; intro u za hN; replace hM := hM.new hN; clear hN) | (refine v_load rfl rfl row_sheet rfl hM.at1 (Nat.le_refl _) (cut_all rfl) ?_)) | go_values | go_skip | go_guarded | go_step | go_upon | (simp only [Int.not_lt, Int.not_le] at *; go_simp))
    refine (HK.out _ hM.below).mono ?_
    rintro e u1 ⟨rfl, hb⟩
    replace hM := hM.call hb
    clear hb
    repeat' (first | go_values | go_skip | go_guarded | go_step | go_upon | (simp only [Int.not_lt, Int.not_le] at *; go_simp))
    refine (HN.out _).mono ?_
    rintro e u1 ⟨rfl, hb⟩
    replace hM := hM.call hb
    clear hb
    repeat' (first | (go_big_may; first | (refine v_alloc rfl zer_greeting rfl ?_; intro u zn hN; replace hM := hM.new hN; clear hN) | (refine v_fill rfl rfl row_greeting rfl rfl hM.at0 (grl_vs _ rfl) rfl ?_; intro u hv hc; replace hM := hM.put0 hc hv; clear hv hc) | (refine v_load rfl rfl row_greeting rfl hM.at0 (Nat.le_refl _) (cut_all rfl) ?_) | (refine v_fill rfl rfl row_greeting rfl rfl hM.at1 (grl_vs _ rfl) rfl ?_; intro u hv hc; replace hM := hM.put1 hc hv; clear hv hc)) | go_values | go_skip | go_guarded | go_step | go_upon | (simp only [Int.not_lt, Int.not_le] at *; go_simp))
    exact bodyPost_ret (ret_2 rfl rfl (ld_var row_greeting hM.at1 rfl) rfl) rfl ⟨⟨noGr, (fun q => by omega), rfl⟩, hM.below⟩
  have HE : Hid (begE d c T x F = ckF F) := by show _ = _; unfold begE; rw [if_neg (fun q => q h1), if_neg (by rw [h2]; decide)]
  rw [HE.out]
  rw [h2] at HN
  simp only [if_true] at HN
  generalize ckF F = z at *
  clear h1 HE
  have HV : Hid (Vs (grl (nwG x) nilS) 24) := grl_vs _ rfl
  have HL : Hid (0 + 24 ≤ (grl (nwG x) nilS).length) := Nat.le_refl _
  have HC : Hid (cut (grl (nwG x) nilS) 0 24 = grl (nwG x) nilS) := cut_all rfl
  go_enter Try.func37, Try.ntmps37
  repeat' (first | (go_big_may; first | (refine v_box rfl rfl rfl ?_; intro u zs hN; replace hM := hM.new hN; clear hN) | (refine v_alloc rfl zer_greeting rfl ?_; intro u za hN; replace hM := hM.new hN; clear hN) | (refine v_load rfl rfl row_sheet rfl hM.at1 (Nat.le_refl _) (cut_all rfl) ?_)) | go_values | go_skip | go_guarded | go_step | go_upon | (simp only [Int.not_lt, Int.not_le] at *; go_simp))
  refine (HK.out _ hM.below).mono ?_
  rintro e u1 ⟨rfl, hb⟩
  replace hM := hM.call hb
  clear hb
  repeat' (first | go_values | go_skip | go_guarded | go_step | go_upon | (simp only [Int.not_lt, Int.not_le] at *; go_simp))
  refine (HN.out _).mono ?_
  rintro e u1 ⟨rfl, hb⟩
  replace hM := hM.call hb
  clear hb
  repeat' (first | (go_big_may; first | (refine v_alloc rfl zer_greeting rfl ?_; intro u zn hN; replace hM := hM.new hN; clear hN) | (refine v_fill rfl rfl row_greeting rfl rfl hM.at0 (grl_vs _ rfl) rfl ?_; intro u hv hc; replace hM := hM.put0 hc hv; clear hv hc)) | go_values | go_skip | go_guarded | go_step | go_upon | (simp only [Int.not_lt, Int.not_le] at *; go_simp))
  go_upto_region 7 with (fail)
  refine reg.wp_abs (fun a0 => a0.tmps.size = 29 ∧ (∀ h, a0.tmps[2]'h = .slice fa F.length fc) ∧ (∀ h, a0.tmps[6]'h = .pointer (some ⟨za, 0, none⟩)) ∧ (∀ h, a0.tmps[9]'h = .pointer (some ⟨zn, 0, none⟩))) ⟨rfl, fun _ => rfl, fun _ => rfl, fun _ => rfl⟩ ?_
  rintro a0 ⟨hsz, s2, s6, s9⟩ ha0
  refine reg.wp_region_E (S := fun W => Ls W [(zn, 29, (grl (nwG x) nilS))]) (E := fun _ => false) (by kernel_rfl) ?_
  replace hM := hM.drew
  refine reg.e_take (i := 0) (ag ((grl (nwG x) nilS))) rfl (by kernel_rfl) (by kernel_rfl) (by kernel_rfl) (by kernel_rfl) (fun _ _ _ h => h) (reg.wanted_none rfl) (hM.ls (by simp)) (fun W hW => ex_load rfl row_greeting (by simp [go_sem, Act.put, hsz, s2, s6, s9]) hW.at0 HL.out HC.out) ?_
  refine reg.e_take (i := 1) (.slice fa F.length fc) rfl (by kernel_rfl) (by kernel_rfl) (by kernel_rfl) (by kernel_rfl) (fun _ _ _ h => h) (reg.wanted_none rfl) (hM.ls (by simp)) (fun W hW => by simp [execOp, go_sem, Act.put, hsz, s2, s6, s9]) ?_
  refine reg.e_one 2 (by kernel_rfl) rfl ?_
  refine reg.r_call (i := 2) 67 #[.slice fa F.length fc] rfl (reg.wanted_none rfl) (by simp [execOp, go_sem, Act.put, hsz, s2, s6, s9]) ((HF.out _ hM.below).mono ?_)
  rintro re ru1 ⟨rfl, rhv⟩
  replace hM := hM.call rhv
  clear rhv
  refine ⟨_, rfl, hM.ls (by simp), ?_⟩
  refine reg.e_one 3 (by kernel_rfl) rfl ?_
  refine r_fill (i := 3) rfl (reg.wanted_none rfl) rfl row_greeting (by simp [go_sem, Act.put, hsz, s2, s6, s9]) (by simp [go_sem, Act.put, hsz, s2, s6, s9]) hM.at1 HV.out rfl ?_
  intro ru2 rhv rhc
  replace hM := hM.put1 rhc rhv
  clear rhc rhv
  refine ⟨hM.ls (by simp), ?_⟩
  refine reg.e_take (i := 4) (.int .i64 z) rfl (by kernel_rfl) (by kernel_rfl) (by kernel_rfl) (by kernel_rfl) (fun _ _ _ h => h) (reg.wanted_none rfl) (hM.ls (by simp)) (fun W hW => by simp [execOp, go_sem, Act.put, hsz, s2, s6, s9]) ?_
  refine reg.e_done (by kernel_rfl) ?_ _
  subst ha0
  clear hsz s2 s6 s9
  go_simp
  repeat' (first | go_values | go_skip | go_guarded | go_step | go_upon | (simp only [Int.not_lt, Int.not_le] at *; go_simp))
  exact bodyPost_ret (ret_2 rfl rfl (ld_var row_greeting hM.at1 rfl) rfl) rfl ⟨⟨nwG x, fun _ => rfl, rfl⟩, hM.below⟩
end Go.Proofs.Ytonheibhbilhhaa.greet
