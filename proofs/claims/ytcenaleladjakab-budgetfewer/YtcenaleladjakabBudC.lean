/- budget: what slices' symMerge does to a row of numbers where one side is one number. -/
import Derived.Test.YtcenaleladjakabBudB
namespace Go.Proofs.Ytcenaleladjakab.budget
open Go Go.RowKit
set_option linter.unusedVariables false
set_option linter.unusedSimpArgs false
set_option maxRecDepth 100000

/-- a number goes into a sorted row -/
theorem into {K : Int → Int} {R : List Int} {x : Int} (hR : Srt K R) {t : Nat} (ht : t ≤ R.length) (h1 : t = 0 ∨ lt K (R.getD (t - 1) 0) x) (h2 : t = R.length ∨ lt K x (R.getD t 0)) : Srt K (R.take t ++ x :: R.drop t) ∧ (R.take t ++ x :: R.drop t).Perm (x :: R) := by
  refine ⟨Srt.ins (by rw [List.take_append_drop]; exact hR) (fun y hy => ?_) (fun y hy => ?_), ?_⟩
  · rcases h1 with h1 | h1
    · subst h1; simp at hy
    · by_cases h0 : t = 0
      · subst h0; simp at hy
      · rcases take_lt hR (by omega) ht hy with q | q
        · rw [q]; exact h1
        · exact lt_trans q h1
  · by_cases h0 : t = R.length
    · subst h0; simp at hy
    · have h2 := h2.resolve_left h0
      rcases drop_lt hR (by omega) hy with q | q
      · rw [q]; exact h2
      · exact lt_trans h2 q
  · refine List.perm_middle.trans ?_
    rw [List.take_append_drop]
theorem perm_snoc {L : List Int} {x : Int} : (x :: L).Perm (L ++ [x]) := (List.perm_append_comm (l₁ := [x])).trans (by simp)
set_option maxHeartbeats 4000000 in
theorem sym_1 (g X : Nat) (N : Int) (K : Int → Int) (A R B : List Int) (x : Int) (n a m b : Nat) (w : World) (hw : w.heap[g]? = some (bv 3 (ivs (A ++ (x :: (R ++ B)))))) (ha : A.length = a) (hm : a + 1 = m) (hb : m + R.length = b) (hn : (A ++ (x :: (R ++ B))).length = n) (hn2 : n ≤ 1000) (hR : Srt K R) (hlow : ∀ y ∈ R, x < y) (hx : 0 ≤ x ∧ x < N) (hr : ∀ y ∈ R, 0 ≤ y ∧ y < N) (hC : Cmp g X N K w) :
    Calls Try.prog 27 #[.slice (some ⟨g, 0, none⟩) n n, .int .i64 (a : Int), .int .i64 (m : Int), .int .i64 (b : Int), cmpF X] w fun e u => e = .returned (.tuple #[]) ∧ ∃ M, Sw g w u (A ++ (M ++ B)) ∧ M.Perm (x :: R) ∧ Srt K M := by
  have hbn : b ≤ n := by rw [← hn]; simp; omega
  have hmb : m ≤ b := by omega
  have ham : a < m := by omega
  have e0 : (((m : Int) - (a : Int)) == 1) = true := by simp; omega
  have s0 : (m : Int) - (a : Int) = 1 := by omega
  obtain ⟨l, hl⟩ : ∃ l, A ++ (x :: (R ++ B)) = l := ⟨_, rfl⟩
  rw [hl] at hw hn
  have HC1 : Hid (∀ u, Sw g w u l → u.cell? ⟨g, a, none⟩ = some (.int .i64 x)) := fun u h => by
    have := h.cell (j := a) (by omega)
    rw [← hl, ← ha] at this
    simpa [ha] using this
  have HC2 : Hid (∀ u h, m ≤ h → h < b → Sw g w u l → u.cell? ⟨g, h, none⟩ = some (.int .i64 (R.getD (h - m) 0))) := fun u h h1 h2 hu => by
    have := hu.cell (j := h) (by omega)
    have e := at_app (A ++ [x]) (R ++ B) (h - m)
    rw [show (A ++ [x]).length + (h - m) = h by simp; omega, show (A ++ [x]) ++ (R ++ B) = l by rw [← hl]; simp, at_fst _ (by omega)] at e
    rw [e] at this
    exact this
  have HY : Hid (∀ h, m ≤ h → h < b → R.getD (h - m) 0 ∈ R) := fun h h1 h2 => by rw [getD_at (by omega)]; exact List.getElem_mem _
  have HCL : Hid (∀ u, Sw g w u l → ∀ y ∈ R, Calls Try.prog 21 #[.int .i64 y, .int .i64 x, .pointer (some ⟨X, 0, none⟩)] u fun e u' => e = .returned (.int .i64 (K y - K x)) ∧ u' = u.drew) := fun u h y hy => hC u h.chg y x (hr y hy) hx
  have HLow : Hid (∀ y ∈ R, x < y) := hlow
  have HW : Hid (Sw g w w l) := Sw.refl hw
  have hRl : R.length = b - m := by omega
  have HF : Hid (∀ i, m ≤ i → i ≤ b → (i = m ∨ lt K (R.getD (i - 1 - m) 0) x) → (i = b ∨ lt K x (R.getD (i - m) 0)) → Srt K (R.take (i - m) ++ x :: R.drop (i - m)) ∧ (R.take (i - m) ++ x :: R.drop (i - m)).Perm (x :: R)) := fun i h1 h2 h3 h4 =>
    into hR (by omega) (h3.elim (fun q => .inl (by omega)) (fun q => .inr (by rw [show i - m - 1 = i - 1 - m by omega]; exact q))) (h4.elim (fun q => .inl (by omega)) .inr)
  have HR0 : Hid (l = A ++ (R.take 0 ++ (x :: (R.drop 0 ++ B)))) := by show _ = _; rw [← hl]; simp
  have HRN : Hid (∀ k, a ≤ k → k < a + R.length → sw (A ++ (R.take (k - a) ++ (x :: (R.drop (k - a) ++ B)))) k (k + 1) = A ++ (R.take (k + 1 - a) ++ (x :: (R.drop (k + 1 - a) ++ B)))) := fun k h1 h2 => by
    rw [drop_cons (i := k - a) (by omega), show k + 1 - a = k - a + 1 by omega, take_snoc (by omega)]
    have := sw_adj (A ++ R.take (k - a)) (R.drop (k - a + 1) ++ B) x (R.getD (k - a) 0) (i := k) (by simp; omega)
    simpa using this
  have HRL : Hid (∀ k, a ≤ k → k ≤ a + R.length → (A ++ (R.take (k - a) ++ (x :: (R.drop (k - a) ++ B)))).length = n) := fun k h1 h2 => by
    rw [← hn, ← hl]; simp; omega
  clear hw ha hb hn hR hlow hx hr hC hl
  go_enter Try.func27, Try.ntmps27
  go_wp2
  go_loopw [10, 11] (fun iv jv wr => ∃ i j : Nat, m ≤ i ∧ i ≤ j ∧ j ≤ b ∧ iv = .int .i64 (i : Int) ∧ jv = .int .i64 (j : Int) ∧ Hid (Sw g w wr l ∧ (i = m ∨ lt K (R.getD (i - 1 - m) 0) x) ∧ (j = b ∨ lt K x (R.getD (j - m) 0)))) (fun iv jv _ => (intOf jv).toNat - (intOf iv).toNat)
  case atStart => exact ⟨m, b, by omega, by omega, by omega, rfl, rfl, HW.out, .inl rfl, .inl rfl⟩
  case round =>
    clear HW
    obtain ⟨i, j, hi, hij, hj, rfl, rfl, HA⟩ := hrel
    by_cases hlt : i < j
    · obtain ⟨h, hh⟩ : ∃ h, (i + j) / 2 = h := ⟨_, rfl⟩
      have hh1 : i ≤ h := by omega
      have hh2 : h < j := by omega
      have s1 : ((i : Int) + (j : Int)) / 2 = (h : Int) := by omega
      have hhn : h < n := by omega
      have hanN : a < n := by omega
      obtain ⟨y, hy⟩ : ∃ y, R.getD (h - m) 0 = y := ⟨_, rfl⟩
      have hyR : y ∈ R := by rw [← hy]; exact HY.out h (by omega) (by omega)
      have HC3 : Hid (∀ u, Sw g w u l → u.cell? ⟨g, h, none⟩ = some (.int .i64 y)) := fun u hu => by rw [← hy]; exact HC2.out u h (by omega) (by omega) hu
      have HCL2 : Hid (∀ u, Sw g w u l → Calls Try.prog 21 #[.int .i64 y, .int .i64 x, .pointer (some ⟨X, 0, none⟩)] u fun e u' => e = .returned (.int .i64 (K y - K x)) ∧ u' = u.drew) := fun u hu => HCL.out u hu y hyR
      have HS0 : Hid (Sw g w wr.drew l) := HA.out.1.drew
      have HT : Hid (K y - K x < 0 → (h + 1 = m ∨ lt K (R.getD (h + 1 - 1 - m) 0) x) ∧ (j = b ∨ lt K x (R.getD (j - m) 0))) := fun q => ⟨.inr (by rw [Nat.add_sub_cancel, hy]; exact lt_of (HLow.out y hyR) (by omega)), HA.out.2.2⟩
      have HFa : Hid (¬ K y - K x < 0 → (i = m ∨ lt K (R.getD (i - 1 - m) 0) x) ∧ (h = b ∨ lt K x (R.getD (h - m) 0))) := fun q => ⟨HA.out.2.1, .inr (by rw [hy]; exact lt_not (HLow.out y hyR) (by omega))⟩
      obtain ⟨d, hd⟩ : ∃ d, K y - K x = d := ⟨_, rfl⟩
      rw [hd] at HCL2 HT HFa
      clear HA HC2 HCL HY HF HR0 HRN HRL HLow hy hyR hd
      go_upto_region 5 with (fail)
      refine wp_abs (fun a0 => a0.tmps.size = 220 ∧ (∀ h, a0.tmps[0]'h = .slice (some ⟨g, 0, none⟩) n n) ∧ (∀ h, a0.tmps[1]'h = .int .i64 (a : Int)) ∧ (∀ h, a0.tmps[4]'h = cmpF X) ∧ (∀ hq, a0.tmps[12]'hq = .int .i64 (h : Int))) ⟨rfl, fun _ => rfl, fun _ => rfl, fun _ => rfl, fun _ => rfl⟩ ?_
      rintro a0 ⟨hsz, z0, z1, z4, z12⟩ ha0
      refine wp_region_held (S := fun W => Sw g w W l) (by kernel_rfl) ?_
      have hS0 : Sw g w wr.drew l := HS0.out
      refine h_take (i := 0) (cmpF X) rfl (by kernel_rfl) (by kernel_rfl) (by kernel_rfl) (fun _ _ _ h => h) rfl hS0 (fun W hW => by simp [execOp, go_sem, Act.put, hsz, z0, z1, z4, z12, hhn, hanN]) ?_
      refine h_take (i := 1) (.slice (some ⟨g, 0, none⟩) n n) rfl (by kernel_rfl) (by kernel_rfl) (by kernel_rfl) (fun _ _ _ h => h) rfl hS0 (fun W hW => by simp [execOp, go_sem, Act.put, hsz, z0, z1, z4, z12, hhn, hanN]) ?_
      refine h_take (i := 2) (.int .i64 (h : Int)) rfl (by kernel_rfl) (by kernel_rfl) (by kernel_rfl) (fun _ _ _ h => h) rfl hS0 (fun W hW => by simp [execOp, go_sem, Act.put, hsz, z0, z1, z4, z12, hhn, hanN]) ?_
      refine h_take (i := 3) (.pointer (some ⟨g, h, none⟩)) rfl (by kernel_rfl) (by kernel_rfl) (by kernel_rfl) (fun _ _ _ h => h) rfl hS0 (fun W hW => by simp [execOp, go_sem, Act.put, hsz, z0, z1, z4, z12, hhn, hanN]) ?_
      refine h_take (i := 4) (.int .i64 y) rfl (by kernel_rfl) (by kernel_rfl) (by kernel_rfl) (fun _ _ _ h => h) rfl hS0 (fun W hW => by simp [execOp, go_sem, Act.put, hsz, z0, z1, z4, z12, hhn, hanN, HC3.out W hW]) ?_
      refine h_take (i := 5) (.slice (some ⟨g, 0, none⟩) n n) rfl (by kernel_rfl) (by kernel_rfl) (by kernel_rfl) (fun _ _ _ h => h) rfl hS0 (fun W hW => by simp [execOp, go_sem, Act.put, hsz, z0, z1, z4, z12, hhn, hanN]) ?_
      refine h_take (i := 6) (.int .i64 (a : Int)) rfl (by kernel_rfl) (by kernel_rfl) (by kernel_rfl) (fun _ _ _ h => h) rfl hS0 (fun W hW => by simp [execOp, go_sem, Act.put, hsz, z0, z1, z4, z12, hhn, hanN]) ?_
      refine h_take (i := 7) (.pointer (some ⟨g, a, none⟩)) rfl (by kernel_rfl) (by kernel_rfl) (by kernel_rfl) (fun _ _ _ h => h) rfl hS0 (fun W hW => by simp [execOp, go_sem, Act.put, hsz, z0, z1, z4, z12, hhn, hanN]) ?_
      refine h_take (i := 8) (.int .i64 x) rfl (by kernel_rfl) (by kernel_rfl) (by kernel_rfl) (fun _ _ _ h => h) rfl hS0 (fun W hW => by simp [execOp, go_sem, Act.put, hsz, z0, z1, z4, z12, hhn, hanN, HC1.out W hW]) ?_
      refine h_call (i := 9) 21 #[.int .i64 y, .int .i64 x, .pointer (some ⟨X, 0, none⟩)] rfl (by kernel_rfl) rfl (by simp [execOp, go_sem, Act.put, hsz, z0, z1, z4, z12, hhn, hanN]) ((HCL2.out _ hS0).mono ?_)
      rintro e u1 ⟨rfl, rfl⟩
      refine ⟨_, rfl, hS0.drew, ?_⟩
      have hS1 : Sw g w wr.drew.drew l := hS0.drew
      by_cases hneg : d < 0
      · have en : decide (d < 0) = true := decide_eq_true hneg
        have HQ := HT.out hneg
        have HQ2 : Hid (Sw g w wr.drew.drew l ∧ (h + 1 = m ∨ lt K (R.getD (h + 1 - 1 - m) 0) x) ∧ (j = b ∨ lt K x (R.getD (j - m) 0))) := ⟨hS1, HQ.1, HQ.2⟩
        refine h_take (i := 10) (.bool true) rfl (by kernel_rfl) (by kernel_rfl) (by kernel_rfl) (fun _ _ _ h => h) rfl hS1 (fun W hW => by simp [execOp, go_sem, Act.put, hsz, z0, z1, z4, z12, en]) ?_
        refine wpAnyH_done (by kernel_rfl) ?_ _
        subst ha0
        clear hsz z0 z1 z4 z12 hS0 hS1 HS0 HCL2 HT HFa HC1 HC3 HQ
        go_simp
        go_wp2
        go_roundw
        case rel => exact ⟨h + 1, j, by omega, by omega, hj, by go_num, rfl, HQ2.out⟩
        case measure => simp [intOf]; omega
      · have en : decide (d < 0) = false := decide_eq_false hneg
        have HQ := HFa.out hneg
        have HQ2 : Hid (Sw g w wr.drew.drew l ∧ (i = m ∨ lt K (R.getD (i - 1 - m) 0) x) ∧ (h = b ∨ lt K x (R.getD (h - m) 0))) := ⟨hS1, HQ.1, HQ.2⟩
        refine h_take (i := 10) (.bool false) rfl (by kernel_rfl) (by kernel_rfl) (by kernel_rfl) (fun _ _ _ h => h) rfl hS1 (fun W hW => by simp [execOp, go_sem, Act.put, hsz, z0, z1, z4, z12, en]) ?_
        refine wpAnyH_done (by kernel_rfl) ?_ _
        subst ha0
        clear hsz z0 z1 z4 z12 hS0 hS1 HS0 HCL2 HT HFa HC1 HC3 HQ
        go_simp
        go_wp2
        go_roundw
        case rel => exact ⟨i, h, by omega, by omega, by omega, rfl, rfl, HQ2.out⟩
        case measure => simp [intOf]; omega
    · have hij : i = j := by omega
      subst hij
      have HG := HF.out i hi hj HA.out.2.1 HA.out.2.2
      have HG2 : Hid (Srt K (R.take (i - m) ++ x :: R.drop (i - m)) ∧ (R.take (i - m) ++ x :: R.drop (i - m)).Perm (x :: R)) := HG
      have HS : Hid (Sw g w wr (A ++ (R.take (a - a) ++ (x :: (R.drop (a - a) ++ B))))) := by have := HA.out.1; rw [HR0.out] at this; rw [Nat.sub_self]; exact this
      have s2 : (i : Int) - 1 = ((i - 1 : Nat) : Int) := by omega
      obtain ⟨I, hI⟩ : ∃ I, i - 1 = I := ⟨_, rfl⟩
      rw [hI] at s2
      have hIm : i - m = I - a := by omega
      rw [hIm] at HG2
      have haI : a ≤ I := by omega
      have hIb : I ≤ a + R.length := by omega
      have hIn : I + 1 ≤ n := by omega
      clear HG HA HF HC2 HCL HY HC1 HR0 HLow hIm
      go_wp2
      go_loopw [13] (fun kv wr => ∃ k : Nat, a ≤ k ∧ k ≤ I ∧ kv = .int .i64 (k : Int) ∧ Hid (Sw g w wr (A ++ (R.take (k - a) ++ (x :: (R.drop (k - a) ++ B)))))) (fun kv _ => I - (intOf kv).toNat)
      case atStart => exact ⟨a, by omega, haI, rfl, HS.out⟩
      case round =>
        clear HS
        obtain ⟨k, hk1, hk2, rfl, HA⟩ := hrel
        by_cases hkI : ¬ k < I
        · have hkI' : k = I := by omega
          have HQ : Hid (∃ M, Sw g w wr (A ++ (M ++ B)) ∧ M.Perm (x :: R) ∧ Srt K M) := ⟨_, by have := HA.out; rw [hkI'] at this; simpa using this, HG2.out.2, HG2.out.1⟩
          clear HA HG2 HRN HRL
          go_wp2
          (try simp only [Exit.inBlock, Exit.then])
          refine bodyPost_ret (results_none rfl _ _ _) rfl ?_
          exact ⟨rfl, HQ.out⟩
        have hkI : k < I := by omega
        obtain ⟨E, hE⟩ : ∃ E, A ++ (R.take (k - a) ++ (x :: (R.drop (k - a) ++ B))) = E := ⟨_, rfl⟩
        have hEl : E.length = n := by rw [← hE]; exact HRL.out k hk1 (by omega)
        have hEn : sw E k (k + 1) = A ++ (R.take (k + 1 - a) ++ (x :: (R.drop (k + 1 - a) ++ B))) := by rw [← hE]; exact HRN.out k hk1 (by omega)
        have hS : Sw g w wr E := by rw [← hE]; exact HA.out
        have hc1 := hS.cell (j := k) (by omega)
        have hc2 := hS.cell (j := k + 1) (by omega)
        have hf1 := hS.free k
        have hf2 := hS.free (k + 1)
        have HB : Hid (Sw g w ((wr.drew.setCell ⟨g, k, none⟩ (.int .i64 (E.getD (k + 1) 0))).setCell ⟨g, k + 1, none⟩ (.int .i64 (E.getD k 0))) (A ++ (R.take (k + 1 - a) ++ (x :: (R.drop (k + 1 - a) ++ B))))) := by
          have := hS.drew.swap k (k + 1)
          rw [hEn] at this
          exact this
        obtain ⟨p, hp⟩ : ∃ p, E.getD k 0 = p := ⟨_, rfl⟩
        obtain ⟨q, hq⟩ : ∃ q, E.getD (k + 1) 0 = q := ⟨_, rfl⟩
        rw [hp] at hc1 HB
        rw [hq] at hc2 HB
        clear HA HRN HRL hS hEn hEl hE hp hq HG2
        go_wp2_with fail
        go_region
        go_wp2
        go_roundw
        case rel => exact ⟨k + 1, by omega, by omega, by go_num, HB.out⟩
        case measure => simp [intOf]; omega
end Go.Proofs.Ytcenaleladjakab.budget
