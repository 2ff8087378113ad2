/- budget: what Plan answers. -/
import Derived.Test.YtcenaleladjakabBudL
namespace Go.Proofs.Ytcenaleladjakab.budget
open Go Go.RowKit
set_option linter.unusedVariables false
set_option linter.unusedSimpArgs false
set_option maxRecDepth 100000

/-- a plan that is told lies in memory of its own -/
def Tld (w u : World) (pv : Value) : Option (List Bt) → Prop
  | none => pv = .slice none 0 0
  | some B => ∃ g, pv = .slice (some ⟨g, 0, none⟩) B.length B.length ∧ u.heap[g]? = some (bv 33 (ivs (bfl (toI B)))) ∧ w.heap.size ≤ g
def plR (P : List Int) (m : Int) : Option (List Bt) := if chk P m = 0 then plan P m.toNat else none
def plC (P : List Int) (m : Int) : Int := if chk P m = 0 then (match plan P m.toNat with | none => 11 | some _ => 0) else chk P m
set_option maxHeartbeats 8000000 in
theorem plan_ok (v : Value) (P : List Int) (M : Nat) (w : World) (hv : Ris w v P) (hP : okP P) (hl : P.length ≤ 64) (hM1 : 1 ≤ M) (hM8 : M ≤ 8) (hchk : chk P (M : Int) = 0) :
    Calls Try.prog 5 #[v, .int .i64 (M : Int)] w fun e u => ∃ pv, e = .returned (.tuple #[pv, .int .i64 (match plan P M with | none => 11 | some _ => 0)]) ∧ Tld w u pv (plan P M) ∧ Below w.heap.size w u := by
  obtain ⟨a, c, rfl, hlc, hcm⟩ := hv.form
  have HCK : Hid (Calls Try.prog 13 #[.slice a P.length c, .int .i64 (M : Int)] w fun e w' => e = .returned (.int .i64 0) ∧ w = w') := by have := check_any _ P (M : Int) w hv; rw [hchk] at this; exact this
  have HBY : Hid (∀ u, Below w.heap.size w u → Calls Try.prog 14 #[.slice a P.length c] u fun e u' => ∃ g, e = .returned (.slice (some ⟨g, 0, none⟩) P.length P.length) ∧ u'.heap[g]? = some (bv 3 (ivs ((ord P).map Int.ofNat))) ∧ u.heap.size ≤ g ∧ Below u.heap.size u u') := fun u hb => byPeriod_any _ P u (hv.below hb) hP hl
  have HTK : Hid (∀ i, i < P.length → ∃ t : Nat, (ivs ((ord P).map Int.ofNat))[i]? = some (.int .i64 (t : Int)) ∧ t < P.length ∧ t ∉ (ord P).take i ∧ (ord P).drop i = t :: (ord P).drop (i + 1) ∧ (ord P).take (i + 1) = (ord P).take i ++ [t] ∧ okp (pN P t) = true ∧ (∀ u, Below w.heap.size w u → ∃ ga off, a = some ⟨ga, off, none⟩ ∧ u.cell? ⟨ga, off + t, none⟩ = some (.int .i64 (pN P t : Int)))) := fun i hi => by
    obtain ⟨t, h1, h2, h3, h4, h5⟩ := Pi.task hP hi
    refine ⟨t, ivs_at (by simp [h1]), h2, h3, h4, h5, (hP.at h2).1, fun u hb => ?_⟩
    obtain ⟨ga, off, e, hc⟩ := (hv.below hb).at t (pN P t : Int) (by
      rw [← (hP.at h2).2, getD_at h2]
      exact List.getElem?_eq_getElem h2)
    exact ⟨ga, off, e, hc⟩
  have HFD : Hid (∀ (u : World) (B : List Bt) (U : List Nat) (i t gu : Nat), Pi P M i B U → okp (pN P t) = true → u.heap[gu]? = some (bv 43 (uvs U)) → Calls Try.prog 15 #[.slice (some ⟨gu, 0, none⟩) M 8, .int .i64 (pN P t : Int)] u fun e u' => e = .returned (.tuple #[agv (ivs (fnA (fit (sOf P ((ord P).take i) B) (pN P t) M) (pN P t))), .bool (fit (sOf P ((ord P).take i) B) (pN P t) M).isSome]) ∧ Below u.heap.size u u') := fun u B U i t gu h hp hu => find_any gu _ U _ (pN P t) M u hu h.ul hM8 h.mm.ve (fun l hl => h.um l (by omega)) hp
  have HNX : Hid (∀ (B : List Bt) (U : List Nat) (i t k : Nat), Pi P M i B U → t < P.length → t ∉ (ord P).take i → (ord P).drop i = t :: (ord P).drop (i + 1) → (ord P).take (i + 1) = (ord P).take i ++ [t] → fit (sOf P ((ord P).take i) B) (pN P t) M = some k → Pi P M (i + 1) (B.set t (k / pN P t, k % pN P t)) (U.set (k / pN P t) (U.getD (k / pN P t) 0 ||| Go.Proofs.Ytcenaleladjakab.budget.mk (pN P t) (k % pN P t))) ∧ k / pN P t < 8 ∧ k % pN P t < pN P t ∧ U.getD (k / pN P t) 0 < 4294967296 ∧ U.length = 8 ∧ B.length = P.length) := fun B U i t k h h1 h2 h3 h4 h5 => by
    have hc := cand (hP.at h1).1 (fit_is h5).1
    have hln : k / pN P t < M := hc.ln
    exact ⟨h.next hP hM8 h1 h2 h3 h4 h5, by omega, hc.ph, by rw [h.um _ (by omega)]; exact msk_small h.mm.ve _, h.ul, h.mm.len⟩
  have HNO : Hid (∀ (B : List Bt) (U : List Nat) (i t : Nat), Pi P M i B U → (ord P).drop i = t :: (ord P).drop (i + 1) → fit (sOf P ((ord P).take i) B) (pN P t) M = none → plan P M = none) := fun B U i t h h1 h2 => h.none h1 h2
  have HDN : Hid (∀ (B : List Bt) (U : List Nat) (i : Nat), Pi P M i B U → ¬ i < P.length → plan P M = some B ∧ B.length = P.length) := fun B U i h hi => ⟨h.done hP hi, h.mm.len⟩
  have HP0 : Hid (Pi P M 0 (zB P.length) (List.replicate 8 0) ∧ List.replicate (P.length * 2) (.int .i64 0) = ivs (bfl (toI (zB P.length)))) := ⟨Pi.zero P M, (zero_plan _).symm⟩
  obtain ⟨O, hO⟩ : ∃ O, ivs ((ord P).map Int.ofNat) = O := ⟨_, rfl⟩
  rw [hO] at HBY HTK
  obtain ⟨R, hR⟩ : ∃ R, plan P M = R := ⟨_, rfl⟩
  rw [hR] at HNO HDN ⊢
  obtain ⟨n, hn⟩ : ∃ n, P.length = n := ⟨_, rfl⟩
  rw [hn] at HCK HBY HTK HNX HDN HP0 hlc hl ⊢
  unfold maxLen at hcm
  have HN : Hid (n ≤ 1000) := by show n ≤ 1000; omega
  have hM := Mm.nil w
  have HM0 : Hid (Mm w w []) := hM
  clear hv hP hO hR hn hM hchk
  go_enter Try.func5, Try.ntmps5
  have hM := HM0.out
  go_wp2_with fail
  refine (HCK.out).mono ?_
  rintro e uc ⟨rfl, rfl⟩
  repeat' (first | (go_big_may; first | (refine v_make rfl el_berths berths_zero rfl rfl rfl HN.out ?_; intro u gp hN; replace hM := hM.new hN; clear hN) | (refine v_alloc rfl zer_taken rfl ?_; intro u gu hN; replace hM := hM.new hN; clear hN)) | go_values | go_skip | go_guarded | go_step | go_upon | (simp only [Int.not_lt, Int.not_le] at *; go_simp))
  refine (HBY.out _ hM.below).mono ?_
  rintro e u ⟨gt, rfl, h1, h2, h3⟩
  replace hM := hM.tel h3 h2 h1
  clear h1 h2 h3
  repeat' (first | go_values | go_skip | go_guarded | go_step | go_upon | (simp only [Int.not_lt, Int.not_le] at *; go_simp))
  have HM : Hid (Mm w u [(gt, 3, O), (gu, 43, uvs (List.replicate 8 0)), (gp, 33, ivs (bfl (toI (zB n))))] ∧ Pi P M 0 (zB n) (List.replicate 8 0)) := ⟨by rw [← HP0.out.2]; exact hM, HP0.out.1⟩
  clear hM HM0 HCK HBY HP0 HN
  go_loopw [10, 11, 12, 25] (fun _ _ _ i wr => ∃ k : Nat, k ≤ n ∧ i = .int .i64 (k : Int) ∧ Hid (∃ B U, Mm w wr [(gt, 3, O), (gu, 43, uvs U), (gp, 33, ivs (bfl (toI B)))] ∧ Pi P M k B U)) (fun _ _ _ i _ => n - (intOf i).toNat)
  case atStart => exact ⟨0, Nat.zero_le _, rfl, _, _, HM.out⟩
  case round =>
    clear HM
    obtain ⟨k, hk, rfl, HA⟩ := hrel
    obtain ⟨B, U, hM, hPi⟩ := HA.out
    have HPi : Hid (Pi P M k B U) := hPi
    clear HA hPi
    by_cases hlt : ¬ k < n
    · have HD := HDN.out B U k HPi.out hlt
      obtain ⟨hR, hB⟩ := HD
      have HQ : Hid (Tld w wr (.slice (some ⟨gp, 0, none⟩) n n) (some B) ∧ Below w.heap.size w wr) := ⟨⟨gp, by rw [hB], hM.at2, hM.own (gp, 33, ivs (bfl (toI B))) (by simp)⟩, hM.below⟩
      subst hR
      clear hM HPi HNX HFD HTK HNO HDN hB
      go_wp2
      go_ret2
      exact ⟨_, rfl, HQ.out.1, HQ.out.2⟩
    have hlt : k < n := by omega
    obtain ⟨t, h1, h2, h3, h4, h5, h6, h7⟩ := HTK.out k hlt
    have hct : wr.cell? ⟨gt, k, none⟩ = some (.int .i64 (t : Int)) := bv_cell hM.at0 h1
    obtain ⟨ga, off, e7, hcp⟩ := h7 wr hM.below
    subst e7
    have HCP : Hid (∀ W, Below w.heap.size w W → W.cell? ⟨ga, off + t, none⟩ = some (.int .i64 (pN P t : Int))) := fun W hb => by
      obtain ⟨ga', off', e', hc'⟩ := h7 W hb
      injection e' with e'
      injection e' with e1 e2 _
      subst e1 e2
      exact hc'
    have HFC : Hid (∀ W, Mm w W [(gt, 3, O), (gu, 43, uvs U), (gp, 33, ivs (bfl (toI B)))] → Calls Try.prog 15 #[.slice (some ⟨gu, 0, none⟩) M 8, .int .i64 (pN P t : Int)] W fun e u' => e = .returned (.tuple #[agv (ivs (fnA (fit (sOf P ((ord P).take k) B) (pN P t) M) (pN P t))), .bool (fit (sOf P ((ord P).take k) B) (pN P t) M).isSome]) ∧ Below W.heap.size W u') := fun W hW => HFD.out W B U k t gu HPi.out h6 hW.at1
    have HSO : Hid (∀ kk, fit (sOf P ((ord P).take k) B) (pN P t) M = some kk → Pi P M (k + 1) (B.set t (kk / pN P t, kk % pN P t)) (U.set (kk / pN P t) (U.getD (kk / pN P t) 0 ||| Go.Proofs.Ytcenaleladjakab.budget.mk (pN P t) (kk % pN P t))) ∧ kk / pN P t < 8 ∧ kk % pN P t < pN P t ∧ U.getD (kk / pN P t) 0 < 4294967296 ∧ U.length = 8 ∧ B.length = n) := fun kk hf => HNX.out B U k t kk HPi.out h2 h3 h4 h5 hf
    have HNN : Hid (fit (sOf P ((ord P).take k) B) (pN P t) M = none → R = none) := fun hf => HNO.out B U k t HPi.out h4 hf
    have HOK : Hid (okp (pN P t) = true) := h6
    obtain ⟨p, hp⟩ : ∃ p, pN P t = p := ⟨_, rfl⟩
    obtain ⟨ft, hft⟩ : ∃ ft, fit (sOf P ((ord P).take k) B) (pN P t) M = ft := ⟨_, rfl⟩
    rw [hft] at HFC HSO HNN
    rw [hp] at HFC HSO HCP HOK
    obtain ⟨PB, hPB⟩ : ∃ PB, ivs (bfl (toI B)) = PB := ⟨_, rfl⟩
    have HPB : Hid (ivs (bfl (toI B)) = PB) := hPB
    rw [hPB] at hM HFC
    have htn : t < n := h2
    obtain ⟨FA, hFA⟩ : ∃ FA, fnA ft p = FA := ⟨_, rfl⟩
    obtain ⟨FB, hFB⟩ : ∃ FB, ft.isSome = FB := ⟨_, rfl⟩
    rw [hFA, hFB] at HFC
    have HFAB : Hid (fnA ft p = FA ∧ ft.isSome = FB) := ⟨hFA, hFB⟩
    have HV : Hid (Vs (ivs FA) 2) := by rw [← hFA]; cases ft <;> exact two_vs _ _
    have HM1 : Hid (Mm w wr [(gt, 3, O), (gu, 43, uvs U), (gp, 33, PB)]) := hM
    clear HTK HFD HNX HNO HDN HPi h1 h2 h3 h4 h5 h6 h7 hcp hp hft hPB hFA hFB hM
    go_upto_region 9 with (fail)
    refine wp_abs (fun a0 => a0.tmps.size = 60 ∧ (∀ h, a0.tmps[0]'h = .slice (some ⟨ga, off, none⟩) n c) ∧ (∀ h, a0.tmps[1]'h = .int .i64 (M : Int)) ∧ (∀ h, a0.tmps[8]'h = .pointer (some ⟨gu, 0, none⟩)) ∧ (∀ h, a0.tmps[10]'h = .int .i64 (t : Int))) ⟨rfl, fun _ => rfl, fun _ => rfl, fun _ => rfl, fun _ => rfl⟩ ?_
    rintro a0 ⟨hsz, s0, s1, s8, s10⟩ ha0
    refine wp_region_held (S := fun W => Mm w W [(gt, 3, O), (gu, 43, uvs U), (gp, 33, PB)]) (by kernel_rfl) ?_
    have hS0 : Mm w wr.drew [(gt, 3, O), (gu, 43, uvs U), (gp, 33, PB)] := HM1.out.drew
    refine h_take (i := 0) (.int .i64 (M : Int)) rfl (by kernel_rfl) (by kernel_rfl) (by kernel_rfl) (fun _ _ _ h => h) rfl hS0 (fun W hW => by simp [execOp, go_sem, Act.put, hsz, s0, s1, s8, s10, htn]) ?_
    refine h_take (i := 1) (.slice (some ⟨gu, 0, none⟩) M 8) rfl (by kernel_rfl) (by kernel_rfl) (by kernel_rfl) (fun _ _ _ h => h) rfl hS0 (fun W hW => ex_sliceu rfl hM8 (by simp [go_sem, Act.put, hsz, s8]) (by simp [go_sem, Act.put, hsz])) ?_
    refine h_take (i := 2) (.slice (some ⟨ga, off, none⟩) n c) rfl (by kernel_rfl) (by kernel_rfl) (by kernel_rfl) (fun _ _ _ h => h) rfl hS0 (fun W hW => by simp [execOp, go_sem, Act.put, hsz, s0, s1, s8, s10, htn]) ?_
    refine h_take (i := 3) (.int .i64 (t : Int)) rfl (by kernel_rfl) (by kernel_rfl) (by kernel_rfl) (fun _ _ _ h => h) rfl hS0 (fun W hW => by simp [execOp, go_sem, Act.put, hsz, s0, s1, s8, s10, htn]) ?_
    refine h_take (i := 4) (.pointer (some ⟨ga, off + t, none⟩)) rfl (by kernel_rfl) (by kernel_rfl) (by kernel_rfl) (fun _ _ _ h => h) rfl hS0 (fun W hW => by simp [execOp, go_sem, Act.put, hsz, s0, s1, s8, s10, htn]) ?_
    refine h_take (i := 5) (.int .i64 (p : Int)) rfl (by kernel_rfl) (by kernel_rfl) (by kernel_rfl) (fun _ _ _ h => h) rfl hS0 (fun W hW => ex_getv rfl (.inl rfl) (by simp [go_sem, Act.put, hsz]) (HCP.out W hW.below)) ?_
    refine h_two 6 10 (by kernel_rfl) ?_ ?_
    · refine o_call 15 #[.slice (some ⟨gu, 0, none⟩) M 8, .int .i64 (p : Int)] rfl rfl (by simp [execOp, go_sem, Act.put, hsz]) ((HFC.out _ hS0).mono ?_)
      rintro e u2 ⟨rfl, hb2⟩
      have hS2 := hS0.call hb2
      refine ⟨_, rfl, hS2, ?_⟩
      refine h_take (i := 7) (.tuple #[agv (ivs FA), .bool FB]) rfl (by kernel_rfl) (by kernel_rfl) (by kernel_rfl) (fun _ _ _ h => h) rfl hS2 (fun W hW => by simp [execOp, go_sem, Act.put, hsz, s0, s1, s8, s10, htn]) ?_
      refine h_take (i := 8) (agv (ivs FA)) rfl (by kernel_rfl) (by kernel_rfl) (by kernel_rfl) (fun _ _ _ h => h) rfl hS2 (fun W hW => by simp [execOp, go_sem, Act.put, hsz, s0, s1, s8, s10, htn]) ?_
      refine h_take (i := 9) (.bool FB) rfl (by kernel_rfl) (by kernel_rfl) (by kernel_rfl) (fun _ _ _ h => h) rfl hS2 (fun W hW => by simp [execOp, go_sem, Act.put, hsz, s0, s1, s8, s10, htn]) ?_
      have hN := New.alloc u2 33 (ivs [0, 0])
      have hM3 := hS2.new hN
      refine h_value (i := 10) (w' := u2.alloc (bv 33 (ivs [0, 0]))) (.pointer (some ⟨u2.heap.size, 0, none⟩)) rfl (by kernel_rfl) rfl (ex_allocv zer_berth rfl) (hM3.sub (.cons _ (List.Sublist.refl _))) ?_
      refine h_skip (i := 11) (w' := (u2.alloc (bv 33 (ivs [0, 0]))).setRow u2.heap.size (ivs FA).toArray) rfl (by kernel_rfl) rfl (ex_fillv rfl row_berth (by simp [go_sem, Act.put, hsz]) (by simp [go_sem, Act.put, hsz]) hM3.at0 HV.out rfl).1 ?_ ?_
      · exact (hM3.put0 (setRow_chg _ hM3.at0) (setRow_heap _ _ _ _ _ _ hM3.at0)).sub (.cons _ (List.Sublist.refl _))
      have hM5 : Mm w ((u2.alloc (bv 33 (ivs [0, 0]))).setRow u2.heap.size (ivs FA).toArray) [(u2.heap.size, 33, ivs FA), (gt, 3, O), (gu, 43, uvs U), (gp, 33, PB)] := hM3.put0 (setRow_chg _ hM3.at0) (setRow_heap _ _ _ _ _ _ hM3.at0)
      refine h_take (i := 12) (.bool FB) rfl (by kernel_rfl) (by kernel_rfl) (by kernel_rfl) (fun _ _ _ h => h) rfl (hM5.sub (.cons _ (List.Sublist.refl _))) (fun W hW => by simp [execOp, go_sem, Act.put, hsz, s0, s1, s8, s10, htn]) ?_
      refine wpAnyH_done (by kernel_rfl) ?_ _
      obtain ⟨u5, hu5⟩ : ∃ u5, (u2.alloc (bv 33 (ivs [0, 0]))).setRow u2.heap.size (ivs FA).toArray = u5 := ⟨_, rfl⟩
      rw [hu5] at hM5 ⊢
      obtain ⟨zb, hzb⟩ : ∃ zb, u2.heap.size = zb := ⟨_, rfl⟩
      rw [hzb] at hM5 ⊢
      subst ha0
      have HM5 : Hid (Mm w u5 [(zb, 33, ivs FA), (gt, 3, O), (gu, 43, uvs U), (gp, 33, PB)]) := hM5
      clear hsz s0 s1 s8 s10 hM5 hu5 hzb hS0 hS2 hM3 hN hb2 HM1 HFC HV
      go_simp
      cases hft : ft with
      | none =>
        have hFB : FB = false := by have := HFAB.out.2; rw [hft] at this; exact this.symm
        have HRN : R = none := HNN.out hft
        subst hFB HRN
        have HQ : Hid (Below w.heap.size w u5) := HM5.out.below
        clear HM5 HNN HSO HFAB HCP HOK HPB
        go_wp2
        go_ret2
        exact ⟨_, rfl, rfl, HQ.out⟩
      | some kk =>
        have hFB : FB = true := by have := HFAB.out.2; rw [hft] at this; exact this.symm
        obtain ⟨q1, q2, q3, q4, q5, q6⟩ := HSO.out kk hft
        have hFA : FA = [((kk / p : Nat) : Int), ((kk % p : Nat) : Int)] := by have := HFAB.out.1; rw [hft] at this; exact this.symm
        obtain ⟨ln, hln⟩ : ∃ ln, kk / p = ln := ⟨_, rfl⟩
        obtain ⟨ph, hph⟩ : ∃ ph, kk % p = ph := ⟨_, rfl⟩
        rw [hln, hph] at hFA
        have HT9 : Hid (∃ bx, bx = (kk / p, kk % p)) := ⟨_, rfl⟩
        have HPn : Hid (∃ p', p' = pN P t ∧ True) := ⟨_, rfl, trivial⟩
        subst hFB hFA
        have HPX : Hid (Pi P M (k + 1) (B.set t (ln, ph)) (U.set ln (U.getD ln 0 ||| Go.Proofs.Ytcenaleladjakab.budget.mk p ph))) := by rw [← hln, ← hph]; exact q1
        rw [hln] at q2 q4
        rw [hph] at q3
        have HRO : Hid (∀ W, Calls Try.prog 16 #[.int .i64 (p : Int), .int .i64 (ph : Int)] W fun e w' => e = .returned (.int .u32 (Go.Proofs.Ytcenaleladjakab.budget.mk p ph : Int)) ∧ W = w') := fun W => roomsOf_any p ph W HOK.out q3
        have eor := or32 q4 (mk_small HOK.out q3)
        obtain ⟨mu, hmu⟩ : ∃ mu, U.getD ln 0 = mu := ⟨_, rfl⟩
        obtain ⟨mo, hmo⟩ : ∃ mo, Go.Proofs.Ytcenaleladjakab.budget.mk p ph = mo := ⟨_, rfl⟩
        rw [hmo] at HRO
        rw [hmu, hmo] at eor HPX
        obtain ⟨mw, hmw⟩ : ∃ mw, mu ||| mo = mw := ⟨_, rfl⟩
        rw [hmw] at eor HPX
        have HCU : Hid (∀ W, Mm w W [(zb, 33, ivs [(ln : Int), (ph : Int)]), (gt, 3, O), (gu, 43, uvs U), (gp, 33, PB)] → W.cell? ⟨gu, ln, none⟩ = some (.int .u32 (mu : Int))) := fun W hW => bv_cell hW.at2 (uvs_at (by rw [← hmu, List.getD_eq_getElem?_getD, List.getElem?_eq_getElem (by omega)]; rfl))
        have HUL : Hid (ln < (uvs U).length) := by show ln < _; rw [uvs_length, q5]; exact q2
        have HBL : Hid (t < B.length ∧ t * 2 + 2 ≤ PB.length) := ⟨by rw [q6]; exact htn, by rw [← HPB.out, ivs_length, bfl_len, toI_len, q6]; omega⟩
        have HPT : Hid (ptv PB (t * 2) (ivs [(ln : Int), (ph : Int)]) = ivs (bfl (toI (B.set t (ln, ph))))) := by show _ = _; rw [← HPB.out]; exact ptv_berth HBL.out.1
        have hln8 : ln < 8 := q2
        have hln9 : ¬ (8 : Int) ≤ (ln : Int) := by omega
        clear q1 q2 q3 q4 q5 q6 hln hph HSO HNN HFAB HOK hmu hmo hmw HT9 HPn HPB hft
        go_upto_region 12 with (fail)
        refine wp_abs (fun a0 => a0.tmps.size = 60 ∧ (∀ h, a0.tmps[0]'h = .slice (some ⟨ga, off, none⟩) n c) ∧ (∀ h, a0.tmps[8]'h = .pointer (some ⟨gu, 0, none⟩)) ∧ (∀ h, a0.tmps[10]'h = .int .i64 (t : Int)) ∧ (∀ h, a0.tmps[11]'h = .pointer (some ⟨zb, 0, none⟩))) ⟨rfl, fun _ => rfl, fun _ => rfl, fun _ => rfl, fun _ => rfl⟩ ?_
        rintro a0 ⟨hsz, s0, s8, s10, s11⟩ ha0
        refine wp_region_held (S := fun W => Mm w W [(zb, 33, ivs [(ln : Int), (ph : Int)])]) (by kernel_rfl) ?_
        have hM6 : Mm w u5.drew [(zb, 33, ivs [(ln : Int), (ph : Int)]), (gt, 3, O), (gu, 43, uvs U), (gp, 33, PB)] := HM5.out.drew
        have hS0 : Mm w u5.drew [(zb, 33, ivs [(ln : Int), (ph : Int)])] := hM6.sub (by simp)
        refine h_take (i := 0) (.pointer (some ⟨zb, 0, none⟩)) rfl (by kernel_rfl) (by kernel_rfl) (by kernel_rfl) (fun _ _ _ h => h) rfl hS0 (fun W hW => by simp [execOp, go_sem, Act.put, hsz, s0, s8, s10, s11, htn, hln8, hln9]) ?_
        refine h_take (i := 1) (.int .i64 (ln : Int)) rfl (by kernel_rfl) (by kernel_rfl) (by kernel_rfl) (fun _ _ _ h => h) rfl hS0 (fun W hW => ex_getv (p := ⟨zb, 0, none⟩) rfl (.inl rfl) (by simp [go_sem, Act.put, hsz]) (bv_cell hW.at0 rfl)) ?_
        refine h_take (i := 2) (.pointer (some ⟨gu, ln, none⟩)) rfl (by kernel_rfl) (by kernel_rfl) (by kernel_rfl) (fun _ _ _ h => h) rfl hS0 (fun W hW => by simp [execOp, go_sem, Act.put, hsz, s0, s8, s10, s11, htn, hln8, hln9]) ?_
        refine h_take (i := 4) (.slice (some ⟨ga, off, none⟩) n c) rfl (by kernel_rfl) (by kernel_rfl) (by kernel_rfl) (fun _ _ _ h => h) rfl hS0 (fun W hW => by simp [execOp, go_sem, Act.put, hsz, s0, s8, s10, s11, htn, hln8, hln9]) ?_
        refine h_take (i := 5) (.int .i64 (t : Int)) rfl (by kernel_rfl) (by kernel_rfl) (by kernel_rfl) (fun _ _ _ h => h) rfl hS0 (fun W hW => by simp [execOp, go_sem, Act.put, hsz, s0, s8, s10, s11, htn, hln8, hln9]) ?_
        refine h_take (i := 6) (.pointer (some ⟨ga, off + t, none⟩)) rfl (by kernel_rfl) (by kernel_rfl) (by kernel_rfl) (fun _ _ _ h => h) rfl hS0 (fun W hW => by simp [execOp, go_sem, Act.put, hsz, s0, s8, s10, s11, htn, hln8, hln9]) ?_
        refine h_take (i := 7) (.int .i64 (p : Int)) rfl (by kernel_rfl) (by kernel_rfl) (by kernel_rfl) (fun _ _ _ h => h) rfl hS0 (fun W hW => ex_getv rfl (.inl rfl) (by simp [go_sem, Act.put, hsz]) (HCP.out W hW.below)) ?_
        refine h_take (i := 8) (.pointer (some ⟨zb, 1, none⟩)) rfl (by kernel_rfl) (by kernel_rfl) (by kernel_rfl) (fun _ _ _ h => h) rfl hS0 (fun W hW => by simp [execOp, go_sem, Act.put, hsz, s0, s8, s10, s11, htn, hln8, hln9]) ?_
        refine h_take (i := 9) (.int .i64 (ph : Int)) rfl (by kernel_rfl) (by kernel_rfl) (by kernel_rfl) (fun _ _ _ h => h) rfl hS0 (fun W hW => ex_getv (p := ⟨zb, 1, none⟩) rfl (.inl rfl) (by simp [go_sem, Act.put, hsz]) (bv_cell hW.at0 rfl)) ?_
        refine h_two 3 10 (by kernel_rfl) ?_ ?_
        · refine o_value (w' := u5.drew) (.int .u32 (mu : Int)) rfl rfl (ex_getv rfl (.inr rfl) (by simp [go_sem, Act.put, hsz]) (HCU.out _ hM6)) ⟨hS0, ?_⟩
          refine h_call (i := 10) 16 #[.int .i64 (p : Int), .int .i64 (ph : Int)] rfl (by kernel_rfl) rfl (by simp [execOp, go_sem, Act.put, hsz, s0, s8, s10, s11, htn, hln8, hln9]) ((HRO.out _).mono ?_)
          rintro e u6 ⟨rfl, rfl⟩
          refine ⟨_, rfl, hS0, ?_⟩
          refine h_take (i := 11) (.int .u32 (mw : Int)) rfl (by kernel_rfl) (by kernel_rfl) (by kernel_rfl) (fun _ _ _ h => h) rfl hS0 (fun W hW => by simp [execOp, go_sem, Act.put, hsz, s0, s8, s10, s11, htn, hln8, hln9, eor]) ?_
          refine h_take (i := 12) (.pointer (some ⟨gu, ln, none⟩)) rfl (by kernel_rfl) (by kernel_rfl) (by kernel_rfl) (fun _ _ _ h => h) rfl hS0 (fun W hW => by simp [execOp, go_sem, Act.put, hsz, s0, s8, s10, s11, htn, hln8, hln9, eor]) ?_
          have hst := set_bv (j := ln) (x := .int .u32 (mw : Int)) hM6.at2
          rw [uvs_set] at hst
          have hM7 := hM6.put2 hst.2 hst.1
          refine h_skip (i := 13) (w' := u5.drew.setCell ⟨gu, ln, none⟩ (.int .u32 (mw : Int))) rfl (by kernel_rfl) rfl (ex_putu rfl (by simp [go_sem, Act.put, hsz]) (by simp [go_sem, Act.put, hsz]) hM6.at2 HUL.out) (hM7.sub (by simp)) ?_
          refine wpAnyH_done (by kernel_rfl) ?_ _
          have hM := hM7
          obtain ⟨u7, hu7⟩ : ∃ u7, u5.drew.setCell ⟨gu, ln, none⟩ (.int .u32 (mw : Int)) = u7 := ⟨_, rfl⟩
          rw [hu7] at hM ⊢
          subst ha0
          have HV2 : Hid (Vs (ivs [(ln : Int), (ph : Int)]) 2) := two_vs _ _
          have HLE : Hid (0 + 2 ≤ (ivs [(ln : Int), (ph : Int)]).length) := Nat.le_refl _
          have HCV : Hid (cv (ivs [(ln : Int), (ph : Int)]) 0 2 = ivs [(ln : Int), (ph : Int)]) := rfl
          have HLT : Hid (t * 2 + 2 ≤ PB.length) := HBL.out.2
          clear hsz s0 s8 s10 s11 hst hM6 hM7 hS0 hu7 HM5 HCU HUL HRO eor HCP
          go_simp
          repeat' (first | (go_big_may; first | (refine v_load rfl rfl row_berth rfl hM.at0 HLE.out HCV.out ?_) | (refine v_store rfl rfl row_berth rfl rfl hM.at3 HV2.out HLT.out HPT.out ?_; intro u hv hc; replace hM := hM.put3 hc hv; clear hv hc)) | go_values | go_skip | go_guarded | go_step | go_upon | (simp only [Int.not_lt, Int.not_le] at *; go_simp))
          go_roundw
          case rel => exact ⟨k + 1, by omega, by go_num, _, _, hM.sub (.cons _ (List.Sublist.refl _)), HPX.out⟩
          case measure => simp [intOf]; omega
        · refine o_call 16 #[.int .i64 (p : Int), .int .i64 (ph : Int)] rfl rfl (by simp [execOp, go_sem, Act.put, hsz]) ((HRO.out _).mono ?_)
          rintro e u6 ⟨rfl, rfl⟩
          refine ⟨_, rfl, hS0, ?_⟩
          refine h_value (i := 3) (w' := u5.drew) (.int .u32 (mu : Int)) rfl (by kernel_rfl) rfl (ex_getv rfl (.inr rfl) (by simp [go_sem, Act.put, hsz]) (HCU.out _ hM6)) hS0 ?_
          refine h_take (i := 11) (.int .u32 (mw : Int)) rfl (by kernel_rfl) (by kernel_rfl) (by kernel_rfl) (fun _ _ _ h => h) rfl hS0 (fun W hW => by simp [execOp, go_sem, Act.put, hsz, s0, s8, s10, s11, htn, hln8, hln9, eor]) ?_
          refine h_take (i := 12) (.pointer (some ⟨gu, ln, none⟩)) rfl (by kernel_rfl) (by kernel_rfl) (by kernel_rfl) (fun _ _ _ h => h) rfl hS0 (fun W hW => by simp [execOp, go_sem, Act.put, hsz, s0, s8, s10, s11, htn, hln8, hln9, eor]) ?_
          have hst := set_bv (j := ln) (x := .int .u32 (mw : Int)) hM6.at2
          rw [uvs_set] at hst
          have hM7 := hM6.put2 hst.2 hst.1
          refine h_skip (i := 13) (w' := u5.drew.setCell ⟨gu, ln, none⟩ (.int .u32 (mw : Int))) rfl (by kernel_rfl) rfl (ex_putu rfl (by simp [go_sem, Act.put, hsz]) (by simp [go_sem, Act.put, hsz]) hM6.at2 HUL.out) (hM7.sub (by simp)) ?_
          refine wpAnyH_done (by kernel_rfl) ?_ _
          have hM := hM7
          obtain ⟨u7, hu7⟩ : ∃ u7, u5.drew.setCell ⟨gu, ln, none⟩ (.int .u32 (mw : Int)) = u7 := ⟨_, rfl⟩
          rw [hu7] at hM ⊢
          subst ha0
          have HV2 : Hid (Vs (ivs [(ln : Int), (ph : Int)]) 2) := two_vs _ _
          have HLE : Hid (0 + 2 ≤ (ivs [(ln : Int), (ph : Int)]).length) := Nat.le_refl _
          have HCV : Hid (cv (ivs [(ln : Int), (ph : Int)]) 0 2 = ivs [(ln : Int), (ph : Int)]) := rfl
          have HLT : Hid (t * 2 + 2 ≤ PB.length) := HBL.out.2
          clear hsz s0 s8 s10 s11 hst hM6 hM7 hS0 hu7 HM5 HCU HUL HRO eor HCP
          go_simp
          repeat' (first | (go_big_may; first | (refine v_load rfl rfl row_berth rfl hM.at0 HLE.out HCV.out ?_) | (refine v_store rfl rfl row_berth rfl rfl hM.at3 HV2.out HLT.out HPT.out ?_; intro u hv hc; replace hM := hM.put3 hc hv; clear hv hc)) | go_values | go_skip | go_guarded | go_step | go_upon | (simp only [Int.not_lt, Int.not_le] at *; go_simp))
          go_roundw
          case rel => exact ⟨k + 1, by omega, by go_num, _, _, hM.sub (.cons _ (List.Sublist.refl _)), HPX.out⟩
          case measure => simp [intOf]; omega
    · have hN := New.alloc wr.drew 33 (ivs [0, 0])
      have hM3 := hS0.new hN
      have hS2 := hM3.sub (List.Sublist.cons _ (List.Sublist.refl _))
      refine o_value (w' := wr.drew.alloc (bv 33 (ivs [0, 0]))) (.pointer (some ⟨wr.drew.heap.size, 0, none⟩)) rfl rfl (ex_allocv zer_berth rfl) ⟨hS2, ?_⟩
      refine h_call (i := 6) 15 #[.slice (some ⟨gu, 0, none⟩) M 8, .int .i64 (p : Int)] rfl (by kernel_rfl) rfl (by simp [execOp, go_sem, Act.put, hsz]) ((HFC.out _ hS2).mono ?_)
      rintro e u2 ⟨rfl, hb2⟩
      have hM4 := hM3.call hb2
      have hS4 := hM4.sub (List.Sublist.cons _ (List.Sublist.refl _))
      refine ⟨_, rfl, hS4, ?_⟩
      refine h_take (i := 7) (.tuple #[agv (ivs FA), .bool FB]) rfl (by kernel_rfl) (by kernel_rfl) (by kernel_rfl) (fun _ _ _ h => h) rfl hS4 (fun W hW => by simp [execOp, go_sem, Act.put, hsz, s0, s1, s8, s10, htn]) ?_
      refine h_take (i := 8) (agv (ivs FA)) rfl (by kernel_rfl) (by kernel_rfl) (by kernel_rfl) (fun _ _ _ h => h) rfl hS4 (fun W hW => by simp [execOp, go_sem, Act.put, hsz, s0, s1, s8, s10, htn]) ?_
      refine h_take (i := 9) (.bool FB) rfl (by kernel_rfl) (by kernel_rfl) (by kernel_rfl) (fun _ _ _ h => h) rfl hS4 (fun W hW => by simp [execOp, go_sem, Act.put, hsz, s0, s1, s8, s10, htn]) ?_
      refine h_skip (i := 11) (w' := u2.setRow wr.drew.heap.size (ivs FA).toArray) rfl (by kernel_rfl) rfl (ex_fillv rfl row_berth (by simp [go_sem, Act.put, hsz]) (by simp [go_sem, Act.put, hsz]) hM4.at0 HV.out rfl).1 ?_ ?_
      · exact (hM4.put0 (setRow_chg _ hM4.at0) (setRow_heap _ _ _ _ _ _ hM4.at0)).sub (.cons _ (List.Sublist.refl _))
      have hM5 : Mm w (u2.setRow wr.drew.heap.size (ivs FA).toArray) [(wr.drew.heap.size, 33, ivs FA), (gt, 3, O), (gu, 43, uvs U), (gp, 33, PB)] := hM4.put0 (setRow_chg _ hM4.at0) (setRow_heap _ _ _ _ _ _ hM4.at0)
      refine h_take (i := 12) (.bool FB) rfl (by kernel_rfl) (by kernel_rfl) (by kernel_rfl) (fun _ _ _ h => h) rfl (hM5.sub (.cons _ (List.Sublist.refl _))) (fun W hW => by simp [execOp, go_sem, Act.put, hsz, s0, s1, s8, s10, htn]) ?_
      refine wpAnyH_done (by kernel_rfl) ?_ _
      obtain ⟨u5, hu5⟩ : ∃ u5, u2.setRow wr.drew.heap.size (ivs FA).toArray = u5 := ⟨_, rfl⟩
      rw [hu5] at hM5 ⊢
      obtain ⟨zb, hzb⟩ : ∃ zb, wr.drew.heap.size = zb := ⟨_, rfl⟩
      rw [hzb] at hM5 ⊢
      subst ha0
      have HM5 : Hid (Mm w u5 [(zb, 33, ivs FA), (gt, 3, O), (gu, 43, uvs U), (gp, 33, PB)]) := hM5
      clear hsz s0 s1 s8 s10 hM5 hu5 hzb hS0 hS2 hM3 hM4 hS4 hN hb2 HM1 HFC HV
      go_simp
      cases hft : ft with
      | none =>
        have hFB : FB = false := by have := HFAB.out.2; rw [hft] at this; exact this.symm
        have HRN : R = none := HNN.out hft
        subst hFB HRN
        have HQ : Hid (Below w.heap.size w u5) := HM5.out.below
        clear HM5 HNN HSO HFAB HCP HOK HPB
        go_wp2
        go_ret2
        exact ⟨_, rfl, rfl, HQ.out⟩
      | some kk =>
        have hFB : FB = true := by have := HFAB.out.2; rw [hft] at this; exact this.symm
        obtain ⟨q1, q2, q3, q4, q5, q6⟩ := HSO.out kk hft
        have hFA : FA = [((kk / p : Nat) : Int), ((kk % p : Nat) : Int)] := by have := HFAB.out.1; rw [hft] at this; exact this.symm
        obtain ⟨ln, hln⟩ : ∃ ln, kk / p = ln := ⟨_, rfl⟩
        obtain ⟨ph, hph⟩ : ∃ ph, kk % p = ph := ⟨_, rfl⟩
        rw [hln, hph] at hFA
        have HT9 : Hid (∃ bx, bx = (kk / p, kk % p)) := ⟨_, rfl⟩
        have HPn : Hid (∃ p', p' = pN P t ∧ True) := ⟨_, rfl, trivial⟩
        subst hFB hFA
        have HPX : Hid (Pi P M (k + 1) (B.set t (ln, ph)) (U.set ln (U.getD ln 0 ||| Go.Proofs.Ytcenaleladjakab.budget.mk p ph))) := by rw [← hln, ← hph]; exact q1
        rw [hln] at q2 q4
        rw [hph] at q3
        have HRO : Hid (∀ W, Calls Try.prog 16 #[.int .i64 (p : Int), .int .i64 (ph : Int)] W fun e w' => e = .returned (.int .u32 (Go.Proofs.Ytcenaleladjakab.budget.mk p ph : Int)) ∧ W = w') := fun W => roomsOf_any p ph W HOK.out q3
        have eor := or32 q4 (mk_small HOK.out q3)
        obtain ⟨mu, hmu⟩ : ∃ mu, U.getD ln 0 = mu := ⟨_, rfl⟩
        obtain ⟨mo, hmo⟩ : ∃ mo, Go.Proofs.Ytcenaleladjakab.budget.mk p ph = mo := ⟨_, rfl⟩
        rw [hmo] at HRO
        rw [hmu, hmo] at eor HPX
        obtain ⟨mw, hmw⟩ : ∃ mw, mu ||| mo = mw := ⟨_, rfl⟩
        rw [hmw] at eor HPX
        have HCU : Hid (∀ W, Mm w W [(zb, 33, ivs [(ln : Int), (ph : Int)]), (gt, 3, O), (gu, 43, uvs U), (gp, 33, PB)] → W.cell? ⟨gu, ln, none⟩ = some (.int .u32 (mu : Int))) := fun W hW => bv_cell hW.at2 (uvs_at (by rw [← hmu, List.getD_eq_getElem?_getD, List.getElem?_eq_getElem (by omega)]; rfl))
        have HUL : Hid (ln < (uvs U).length) := by show ln < _; rw [uvs_length, q5]; exact q2
        have HBL : Hid (t < B.length ∧ t * 2 + 2 ≤ PB.length) := ⟨by rw [q6]; exact htn, by rw [← HPB.out, ivs_length, bfl_len, toI_len, q6]; omega⟩
        have HPT : Hid (ptv PB (t * 2) (ivs [(ln : Int), (ph : Int)]) = ivs (bfl (toI (B.set t (ln, ph))))) := by show _ = _; rw [← HPB.out]; exact ptv_berth HBL.out.1
        have hln8 : ln < 8 := q2
        have hln9 : ¬ (8 : Int) ≤ (ln : Int) := by omega
        clear q1 q2 q3 q4 q5 q6 hln hph HSO HNN HFAB HOK hmu hmo hmw HT9 HPn HPB hft
        go_upto_region 12 with (fail)
        refine wp_abs (fun a0 => a0.tmps.size = 60 ∧ (∀ h, a0.tmps[0]'h = .slice (some ⟨ga, off, none⟩) n c) ∧ (∀ h, a0.tmps[8]'h = .pointer (some ⟨gu, 0, none⟩)) ∧ (∀ h, a0.tmps[10]'h = .int .i64 (t : Int)) ∧ (∀ h, a0.tmps[11]'h = .pointer (some ⟨zb, 0, none⟩))) ⟨rfl, fun _ => rfl, fun _ => rfl, fun _ => rfl, fun _ => rfl⟩ ?_
        rintro a0 ⟨hsz, s0, s8, s10, s11⟩ ha0
        refine wp_region_held (S := fun W => Mm w W [(zb, 33, ivs [(ln : Int), (ph : Int)])]) (by kernel_rfl) ?_
        have hM6 : Mm w u5.drew [(zb, 33, ivs [(ln : Int), (ph : Int)]), (gt, 3, O), (gu, 43, uvs U), (gp, 33, PB)] := HM5.out.drew
        have hS0 : Mm w u5.drew [(zb, 33, ivs [(ln : Int), (ph : Int)])] := hM6.sub (by simp)
        refine h_take (i := 0) (.pointer (some ⟨zb, 0, none⟩)) rfl (by kernel_rfl) (by kernel_rfl) (by kernel_rfl) (fun _ _ _ h => h) rfl hS0 (fun W hW => by simp [execOp, go_sem, Act.put, hsz, s0, s8, s10, s11, htn, hln8, hln9]) ?_
        refine h_take (i := 1) (.int .i64 (ln : Int)) rfl (by kernel_rfl) (by kernel_rfl) (by kernel_rfl) (fun _ _ _ h => h) rfl hS0 (fun W hW => ex_getv (p := ⟨zb, 0, none⟩) rfl (.inl rfl) (by simp [go_sem, Act.put, hsz]) (bv_cell hW.at0 rfl)) ?_
        refine h_take (i := 2) (.pointer (some ⟨gu, ln, none⟩)) rfl (by kernel_rfl) (by kernel_rfl) (by kernel_rfl) (fun _ _ _ h => h) rfl hS0 (fun W hW => by simp [execOp, go_sem, Act.put, hsz, s0, s8, s10, s11, htn, hln8, hln9]) ?_
        refine h_take (i := 4) (.slice (some ⟨ga, off, none⟩) n c) rfl (by kernel_rfl) (by kernel_rfl) (by kernel_rfl) (fun _ _ _ h => h) rfl hS0 (fun W hW => by simp [execOp, go_sem, Act.put, hsz, s0, s8, s10, s11, htn, hln8, hln9]) ?_
        refine h_take (i := 5) (.int .i64 (t : Int)) rfl (by kernel_rfl) (by kernel_rfl) (by kernel_rfl) (fun _ _ _ h => h) rfl hS0 (fun W hW => by simp [execOp, go_sem, Act.put, hsz, s0, s8, s10, s11, htn, hln8, hln9]) ?_
        refine h_take (i := 6) (.pointer (some ⟨ga, off + t, none⟩)) rfl (by kernel_rfl) (by kernel_rfl) (by kernel_rfl) (fun _ _ _ h => h) rfl hS0 (fun W hW => by simp [execOp, go_sem, Act.put, hsz, s0, s8, s10, s11, htn, hln8, hln9]) ?_
        refine h_take (i := 7) (.int .i64 (p : Int)) rfl (by kernel_rfl) (by kernel_rfl) (by kernel_rfl) (fun _ _ _ h => h) rfl hS0 (fun W hW => ex_getv rfl (.inl rfl) (by simp [go_sem, Act.put, hsz]) (HCP.out W hW.below)) ?_
        refine h_take (i := 8) (.pointer (some ⟨zb, 1, none⟩)) rfl (by kernel_rfl) (by kernel_rfl) (by kernel_rfl) (fun _ _ _ h => h) rfl hS0 (fun W hW => by simp [execOp, go_sem, Act.put, hsz, s0, s8, s10, s11, htn, hln8, hln9]) ?_
        refine h_take (i := 9) (.int .i64 (ph : Int)) rfl (by kernel_rfl) (by kernel_rfl) (by kernel_rfl) (fun _ _ _ h => h) rfl hS0 (fun W hW => ex_getv (p := ⟨zb, 1, none⟩) rfl (.inl rfl) (by simp [go_sem, Act.put, hsz]) (bv_cell hW.at0 rfl)) ?_
        refine h_two 3 10 (by kernel_rfl) ?_ ?_
        · refine o_value (w' := u5.drew) (.int .u32 (mu : Int)) rfl rfl (ex_getv rfl (.inr rfl) (by simp [go_sem, Act.put, hsz]) (HCU.out _ hM6)) ⟨hS0, ?_⟩
          refine h_call (i := 10) 16 #[.int .i64 (p : Int), .int .i64 (ph : Int)] rfl (by kernel_rfl) rfl (by simp [execOp, go_sem, Act.put, hsz, s0, s8, s10, s11, htn, hln8, hln9]) ((HRO.out _).mono ?_)
          rintro e u6 ⟨rfl, rfl⟩
          refine ⟨_, rfl, hS0, ?_⟩
          refine h_take (i := 11) (.int .u32 (mw : Int)) rfl (by kernel_rfl) (by kernel_rfl) (by kernel_rfl) (fun _ _ _ h => h) rfl hS0 (fun W hW => by simp [execOp, go_sem, Act.put, hsz, s0, s8, s10, s11, htn, hln8, hln9, eor]) ?_
          refine h_take (i := 12) (.pointer (some ⟨gu, ln, none⟩)) rfl (by kernel_rfl) (by kernel_rfl) (by kernel_rfl) (fun _ _ _ h => h) rfl hS0 (fun W hW => by simp [execOp, go_sem, Act.put, hsz, s0, s8, s10, s11, htn, hln8, hln9, eor]) ?_
          have hst := set_bv (j := ln) (x := .int .u32 (mw : Int)) hM6.at2
          rw [uvs_set] at hst
          have hM7 := hM6.put2 hst.2 hst.1
          refine h_skip (i := 13) (w' := u5.drew.setCell ⟨gu, ln, none⟩ (.int .u32 (mw : Int))) rfl (by kernel_rfl) rfl (ex_putu rfl (by simp [go_sem, Act.put, hsz]) (by simp [go_sem, Act.put, hsz]) hM6.at2 HUL.out) (hM7.sub (by simp)) ?_
          refine wpAnyH_done (by kernel_rfl) ?_ _
          have hM := hM7
          obtain ⟨u7, hu7⟩ : ∃ u7, u5.drew.setCell ⟨gu, ln, none⟩ (.int .u32 (mw : Int)) = u7 := ⟨_, rfl⟩
          rw [hu7] at hM ⊢
          subst ha0
          have HV2 : Hid (Vs (ivs [(ln : Int), (ph : Int)]) 2) := two_vs _ _
          have HLE : Hid (0 + 2 ≤ (ivs [(ln : Int), (ph : Int)]).length) := Nat.le_refl _
          have HCV : Hid (cv (ivs [(ln : Int), (ph : Int)]) 0 2 = ivs [(ln : Int), (ph : Int)]) := rfl
          have HLT : Hid (t * 2 + 2 ≤ PB.length) := HBL.out.2
          clear hsz s0 s8 s10 s11 hst hM6 hM7 hS0 hu7 HM5 HCU HUL HRO eor HCP
          go_simp
          repeat' (first | (go_big_may; first | (refine v_load rfl rfl row_berth rfl hM.at0 HLE.out HCV.out ?_) | (refine v_store rfl rfl row_berth rfl rfl hM.at3 HV2.out HLT.out HPT.out ?_; intro u hv hc; replace hM := hM.put3 hc hv; clear hv hc)) | go_values | go_skip | go_guarded | go_step | go_upon | (simp only [Int.not_lt, Int.not_le] at *; go_simp))
          go_roundw
          case rel => exact ⟨k + 1, by omega, by go_num, _, _, hM.sub (.cons _ (List.Sublist.refl _)), HPX.out⟩
          case measure => simp [intOf]; omega
        · refine o_call 16 #[.int .i64 (p : Int), .int .i64 (ph : Int)] rfl rfl (by simp [execOp, go_sem, Act.put, hsz]) ((HRO.out _).mono ?_)
          rintro e u6 ⟨rfl, rfl⟩
          refine ⟨_, rfl, hS0, ?_⟩
          refine h_value (i := 3) (w' := u5.drew) (.int .u32 (mu : Int)) rfl (by kernel_rfl) rfl (ex_getv rfl (.inr rfl) (by simp [go_sem, Act.put, hsz]) (HCU.out _ hM6)) hS0 ?_
          refine h_take (i := 11) (.int .u32 (mw : Int)) rfl (by kernel_rfl) (by kernel_rfl) (by kernel_rfl) (fun _ _ _ h => h) rfl hS0 (fun W hW => by simp [execOp, go_sem, Act.put, hsz, s0, s8, s10, s11, htn, hln8, hln9, eor]) ?_
          refine h_take (i := 12) (.pointer (some ⟨gu, ln, none⟩)) rfl (by kernel_rfl) (by kernel_rfl) (by kernel_rfl) (fun _ _ _ h => h) rfl hS0 (fun W hW => by simp [execOp, go_sem, Act.put, hsz, s0, s8, s10, s11, htn, hln8, hln9, eor]) ?_
          have hst := set_bv (j := ln) (x := .int .u32 (mw : Int)) hM6.at2
          rw [uvs_set] at hst
          have hM7 := hM6.put2 hst.2 hst.1
          refine h_skip (i := 13) (w' := u5.drew.setCell ⟨gu, ln, none⟩ (.int .u32 (mw : Int))) rfl (by kernel_rfl) rfl (ex_putu rfl (by simp [go_sem, Act.put, hsz]) (by simp [go_sem, Act.put, hsz]) hM6.at2 HUL.out) (hM7.sub (by simp)) ?_
          refine wpAnyH_done (by kernel_rfl) ?_ _
          have hM := hM7
          obtain ⟨u7, hu7⟩ : ∃ u7, u5.drew.setCell ⟨gu, ln, none⟩ (.int .u32 (mw : Int)) = u7 := ⟨_, rfl⟩
          rw [hu7] at hM ⊢
          subst ha0
          have HV2 : Hid (Vs (ivs [(ln : Int), (ph : Int)]) 2) := two_vs _ _
          have HLE : Hid (0 + 2 ≤ (ivs [(ln : Int), (ph : Int)]).length) := Nat.le_refl _
          have HCV : Hid (cv (ivs [(ln : Int), (ph : Int)]) 0 2 = ivs [(ln : Int), (ph : Int)]) := rfl
          have HLT : Hid (t * 2 + 2 ≤ PB.length) := HBL.out.2
          clear hsz s0 s8 s10 s11 hst hM6 hM7 hS0 hu7 HM5 HCU HUL HRO eor HCP
          go_simp
          repeat' (first | (go_big_may; first | (refine v_load rfl rfl row_berth rfl hM.at0 HLE.out HCV.out ?_) | (refine v_store rfl rfl row_berth rfl rfl hM.at3 HV2.out HLT.out HPT.out ?_; intro u hv hc; replace hM := hM.put3 hc hv; clear hv hc)) | go_values | go_skip | go_guarded | go_step | go_upon | (simp only [Int.not_lt, Int.not_le] at *; go_simp))
          go_roundw
          case rel => exact ⟨k + 1, by omega, by go_num, _, _, hM.sub (.cons _ (List.Sublist.refl _)), HPX.out⟩
          case measure => simp [intOf]; omega
theorem plan_any (v : Value) (P : List Int) (m : Int) (w : World) (hv : Ris w v P) : Calls Try.prog 5 #[v, .int .i64 m] w fun e u => ∃ pv, e = .returned (.tuple #[pv, .int .i64 (plC P m)]) ∧ Tld w u pv (plR P m) ∧ Below w.heap.size w u := by
  by_cases h : chk P m = 0
  · obtain ⟨h1, h2, h3, h4⟩ := chk_ok h
    obtain ⟨M, rfl⟩ := Int.eq_ofNat_of_zero_le (show 0 ≤ m by omega)
    have := plan_ok v P M w hv h4 h3 (by omega) (by omega) h
    unfold plC plR
    rw [if_pos h, if_pos h, Int.toNat_natCast]
    exact this
  · have HC : Hid (Calls Try.prog 13 #[v, .int .i64 m] w fun e w' => e = .returned (.int .i64 (chk P m)) ∧ w = w') := check_any v P m w hv
    unfold plC plR
    rw [if_neg h, if_neg h]
    obtain ⟨z, hz⟩ : ∃ z, chk P m = z := ⟨_, rfl⟩
    rw [hz] at HC h ⊢
    have e1 : (z != 0) = true := by simpa using h
    clear hv hz h
    go_enter Try.func5, Try.ntmps5
    go_wp2_with fail
    refine (HC.out).mono ?_
    rintro e u ⟨rfl, rfl⟩
    clear HC
    go_wp2
    go_ret2
    exact ⟨_, rfl, rfl, Below.refl _ _⟩
end Go.Proofs.Ytcenaleladjakab.budget
