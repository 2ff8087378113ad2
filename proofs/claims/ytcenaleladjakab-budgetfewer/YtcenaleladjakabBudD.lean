/- budget: what slices' symMerge does to a row of numbers where the second side is one number. -/
import Derived.Test.YtcenaleladjakabBudC
namespace Go.Proofs.Ytcenaleladjakab.budget
open Go Go.RowKit
set_option linter.unusedVariables false
set_option linter.unusedSimpArgs false
set_option maxRecDepth 100000

set_option maxHeartbeats 4000000 in
theorem sym_2 (g X : Nat) (N : Int) (K : Int → Int) (A L B : List Int) (y : Int) (n a m b : Nat) (w : World) (hw : w.heap[g]? = some (bv 3 (ivs (A ++ (L ++ (y :: B)))))) (ha : A.length = a) (hm : a + L.length = m) (hb : m + 1 = b) (hL2 : 2 ≤ L.length) (hn : (A ++ (L ++ (y :: B))).length = n) (hn2 : n ≤ 1000) (hL : Srt K L) (hlow : ∀ x ∈ L, x < y) (hy : 0 ≤ y ∧ y < N) (hr : ∀ x ∈ L, 0 ≤ x ∧ x < N) (hC : Cmp g X N K w) :
    Calls Try.prog 27 #[.slice (some ⟨g, 0, none⟩) n n, .int .i64 (a : Int), .int .i64 (m : Int), .int .i64 (b : Int), cmpF X] w fun e u => e = .returned (.tuple #[]) ∧ ∃ M, Sw g w u (A ++ (M ++ B)) ∧ M.Perm (y :: L) ∧ Srt K M := by
  have hbn : b ≤ n := by rw [← hn]; simp; omega
  have hmb : m < b := by omega
  have ham : a + 2 ≤ m := by omega
  have e0 : (((m : Int) - (a : Int)) == 1) = false := by simp; omega
  have e1 : (((b : Int) - (m : Int)) == 1) = true := by simp; omega
  have s0 : (b : Int) - (m : Int) = 1 := by omega
  obtain ⟨l, hl⟩ : ∃ l, A ++ (L ++ (y :: B)) = l := ⟨_, rfl⟩
  rw [hl] at hw hn
  have HC1 : Hid (∀ u, Sw g w u l → u.cell? ⟨g, m, none⟩ = some (.int .i64 y)) := fun u h => by
    have := h.cell (j := m) (by omega)
    have e := at_app (A ++ L) (y :: B) 0
    rw [show (A ++ L).length + 0 = m by simp; omega, show (A ++ L) ++ (y :: B) = l by rw [← hl]; simp] at e
    rw [e] at this
    exact this
  have HC2 : Hid (∀ u h, a ≤ h → h < m → Sw g w u l → u.cell? ⟨g, h, none⟩ = some (.int .i64 (L.getD (h - a) 0))) := fun u h h1 h2 hu => by
    have := hu.cell (j := h) (by omega)
    have e := at_app A (L ++ (y :: B)) (h - a)
    rw [show A.length + (h - a) = h by omega, hl, at_fst _ (by omega)] at e
    rw [e] at this
    exact this
  have HY : Hid (∀ h, a ≤ h → h < m → L.getD (h - a) 0 ∈ L) := fun h h1 h2 => by rw [getD_at (by omega)]; exact List.getElem_mem _
  have HCL : Hid (∀ u, Sw g w u l → ∀ x ∈ L, Calls Try.prog 21 #[.int .i64 y, .int .i64 x, .pointer (some ⟨X, 0, none⟩)] u fun e u' => e = .returned (.int .i64 (K y - K x)) ∧ u' = u.drew) := fun u h x hx => hC u h.chg y x hy (hr x hx)
  have HLow : Hid (∀ x ∈ L, x < y) := hlow
  have HW : Hid (Sw g w w l) := Sw.refl hw
  have hRl : L.length = m - a := by omega
  have HF : Hid (∀ i, a ≤ i → i ≤ m → (i = a ∨ lt K (L.getD (i - 1 - a) 0) y) → (i = m ∨ lt K y (L.getD (i - a) 0)) → Srt K (L.take (i - a) ++ y :: L.drop (i - a)) ∧ (L.take (i - a) ++ y :: L.drop (i - a)).Perm (y :: L)) := fun i h1 h2 h3 h4 =>
    into hL (by omega) (h3.elim (fun q => .inl (by omega)) (fun q => .inr (by rw [show i - a - 1 = i - 1 - a by omega]; exact q))) (h4.elim (fun q => .inl (by omega)) .inr)
  have HR0 : Hid (l = A ++ (L.take (m - a) ++ (y :: (L.drop (m - a) ++ B)))) := by show _ = _; rw [← hl, ← hRl]; simp
  have HRN : Hid (∀ k, a < k → k ≤ m → sw (A ++ (L.take (k - a) ++ (y :: (L.drop (k - a) ++ B)))) (k - 1) k = A ++ (L.take (k - 1 - a) ++ (y :: (L.drop (k - 1 - a) ++ B)))) := fun k h1 h2 => by
    rw [drop_cons (i := k - 1 - a) (by omega), show k - a = k - 1 - a + 1 by omega, take_snoc (by omega)]
    have := sw_adj (A ++ L.take (k - 1 - a)) (L.drop (k - 1 - a + 1) ++ B) (L.getD (k - 1 - a) 0) y (i := k - 1) (by simp; omega)
    rw [show k - 1 + 1 = k by omega] at this
    simpa using this
  have HRL : Hid (∀ k, a ≤ k → k ≤ m → (A ++ (L.take (k - a) ++ (y :: (L.drop (k - a) ++ B)))).length = n) := fun k h1 h2 => by
    rw [← hn, ← hl]; simp; omega
  clear hw ha hn hL hlow hy hr hC hl
  go_enter Try.func27, Try.ntmps27
  go_wp2
  go_loopw [14, 15] (fun iv jv wr => ∃ i j : Nat, a ≤ i ∧ i ≤ j ∧ j ≤ m ∧ iv = .int .i64 (i : Int) ∧ jv = .int .i64 (j : Int) ∧ Hid (Sw g w wr l ∧ (i = a ∨ lt K (L.getD (i - 1 - a) 0) y) ∧ (j = m ∨ lt K y (L.getD (j - a) 0)))) (fun iv jv _ => (intOf jv).toNat - (intOf iv).toNat)
  case atStart => exact ⟨a, m, by omega, by omega, by omega, rfl, rfl, HW.out, .inl rfl, .inl rfl⟩
  case round =>
    clear HW
    obtain ⟨i, j, hi, hij, hj, rfl, rfl, HA⟩ := hrel
    by_cases hlt : i < j
    · obtain ⟨h, hh⟩ : ∃ h, (i + j) / 2 = h := ⟨_, rfl⟩
      have hh1 : i ≤ h := by omega
      have hh2 : h < j := by omega
      have s1 : ((i : Int) + (j : Int)) / 2 = (h : Int) := by omega
      have hhn : h < n := by omega
      have hanN : m < n := by omega
      obtain ⟨x, hx⟩ : ∃ x, L.getD (h - a) 0 = x := ⟨_, rfl⟩
      have hxL : x ∈ L := by rw [← hx]; exact HY.out h (by omega) (by omega)
      have HC3 : Hid (∀ u, Sw g w u l → u.cell? ⟨g, h, none⟩ = some (.int .i64 x)) := fun u hu => by rw [← hx]; exact HC2.out u h (by omega) (by omega) hu
      have HCL2 : Hid (∀ u, Sw g w u l → Calls Try.prog 21 #[.int .i64 y, .int .i64 x, .pointer (some ⟨X, 0, none⟩)] u fun e u' => e = .returned (.int .i64 (K y - K x)) ∧ u' = u.drew) := fun u hu => HCL.out u hu x hxL
      have HS0 : Hid (Sw g w wr.drew l) := HA.out.1.drew
      have HT : Hid (¬ K y - K x < 0 → (h + 1 = a ∨ lt K (L.getD (h + 1 - 1 - a) 0) y) ∧ (j = m ∨ lt K y (L.getD (j - a) 0))) := fun q => ⟨.inr (by rw [Nat.add_sub_cancel, hx]; exact lt_not (HLow.out x hxL) (by omega)), HA.out.2.2⟩
      have HFa : Hid (K y - K x < 0 → (i = a ∨ lt K (L.getD (i - 1 - a) 0) y) ∧ (h = m ∨ lt K y (L.getD (h - a) 0))) := fun q => ⟨HA.out.2.1, .inr (by rw [hx]; exact lt_of (HLow.out x hxL) (by omega))⟩
      obtain ⟨d, hd⟩ : ∃ d, K y - K x = d := ⟨_, rfl⟩
      rw [hd] at HCL2 HT HFa
      clear HA HC2 HCL HY HF HR0 HRN HRL HLow hx hxL hd
      go_upto_region 17 with (fail)
      refine wp_abs (fun a0 => a0.tmps.size = 220 ∧ (∀ h, a0.tmps[0]'h = .slice (some ⟨g, 0, none⟩) n n) ∧ (∀ h, a0.tmps[2]'h = .int .i64 (m : Int)) ∧ (∀ h, a0.tmps[4]'h = cmpF X) ∧ (∀ hq, a0.tmps[16]'hq = .int .i64 (h : Int))) ⟨rfl, fun _ => rfl, fun _ => rfl, fun _ => rfl, fun _ => rfl⟩ ?_
      rintro a0 ⟨hsz, z0, z1, z4, z12⟩ ha0
      refine wp_region_held (S := fun W => Sw g w W l) (by kernel_rfl) ?_
      have hS0 : Sw g w wr.drew l := HS0.out
      refine h_take (i := 0) (cmpF X) rfl (by kernel_rfl) (by kernel_rfl) (by kernel_rfl) (fun _ _ _ h => h) rfl hS0 (fun W hW => by simp [execOp, go_sem, Act.put, hsz, z0, z1, z4, z12, hhn, hanN]) ?_
      refine h_take (i := 1) (.slice (some ⟨g, 0, none⟩) n n) rfl (by kernel_rfl) (by kernel_rfl) (by kernel_rfl) (fun _ _ _ h => h) rfl hS0 (fun W hW => by simp [execOp, go_sem, Act.put, hsz, z0, z1, z4, z12, hhn, hanN]) ?_
      refine h_take (i := 2) (.int .i64 (m : Int)) rfl (by kernel_rfl) (by kernel_rfl) (by kernel_rfl) (fun _ _ _ h => h) rfl hS0 (fun W hW => by simp [execOp, go_sem, Act.put, hsz, z0, z1, z4, z12, hhn, hanN]) ?_
      refine h_take (i := 3) (.pointer (some ⟨g, m, none⟩)) rfl (by kernel_rfl) (by kernel_rfl) (by kernel_rfl) (fun _ _ _ h => h) rfl hS0 (fun W hW => by simp [execOp, go_sem, Act.put, hsz, z0, z1, z4, z12, hhn, hanN]) ?_
      refine h_take (i := 4) (.int .i64 y) rfl (by kernel_rfl) (by kernel_rfl) (by kernel_rfl) (fun _ _ _ h => h) rfl hS0 (fun W hW => by simp [execOp, go_sem, Act.put, hsz, z0, z1, z4, z12, hhn, hanN, HC1.out W hW]) ?_
      refine h_take (i := 5) (.slice (some ⟨g, 0, none⟩) n n) rfl (by kernel_rfl) (by kernel_rfl) (by kernel_rfl) (fun _ _ _ h => h) rfl hS0 (fun W hW => by simp [execOp, go_sem, Act.put, hsz, z0, z1, z4, z12, hhn, hanN]) ?_
      refine h_take (i := 6) (.int .i64 (h : Int)) rfl (by kernel_rfl) (by kernel_rfl) (by kernel_rfl) (fun _ _ _ h => h) rfl hS0 (fun W hW => by simp [execOp, go_sem, Act.put, hsz, z0, z1, z4, z12, hhn, hanN]) ?_
      refine h_take (i := 7) (.pointer (some ⟨g, h, none⟩)) rfl (by kernel_rfl) (by kernel_rfl) (by kernel_rfl) (fun _ _ _ h => h) rfl hS0 (fun W hW => by simp [execOp, go_sem, Act.put, hsz, z0, z1, z4, z12, hhn, hanN]) ?_
      refine h_take (i := 8) (.int .i64 x) rfl (by kernel_rfl) (by kernel_rfl) (by kernel_rfl) (fun _ _ _ h => h) rfl hS0 (fun W hW => by simp [execOp, go_sem, Act.put, hsz, z0, z1, z4, z12, hhn, hanN, HC3.out W hW]) ?_
      refine h_call (i := 9) 21 #[.int .i64 y, .int .i64 x, .pointer (some ⟨X, 0, none⟩)] rfl (by kernel_rfl) rfl (by simp [execOp, go_sem, Act.put, hsz, z0, z1, z4, z12, hhn, hanN]) ((HCL2.out _ hS0).mono ?_)
      rintro e u1 ⟨rfl, rfl⟩
      refine ⟨_, rfl, hS0.drew, ?_⟩
      have hS1 : Sw g w wr.drew.drew l := hS0.drew
      by_cases hneg : d < 0
      · have en : decide (d < 0) = true := decide_eq_true hneg
        have HQ := HFa.out hneg
        have HQ2 : Hid (Sw g w wr.drew.drew l ∧ (i = a ∨ lt K (L.getD (i - 1 - a) 0) y) ∧ (h = m ∨ lt K y (L.getD (h - a) 0))) := ⟨hS1, HQ.1, HQ.2⟩
        refine h_take (i := 10) (.bool true) rfl (by kernel_rfl) (by kernel_rfl) (by kernel_rfl) (fun _ _ _ h => h) rfl hS1 (fun W hW => by simp [execOp, go_sem, Act.put, hsz, z0, z1, z4, z12, en]) ?_
        refine h_take (i := 11) (.bool false) rfl (by kernel_rfl) (by kernel_rfl) (by kernel_rfl) (fun _ _ _ h => h) rfl hS1 (fun W hW => by simp [execOp, go_sem, Act.put, hsz, z0, z1, z4, z12, en]) ?_
        refine wpAnyH_done (by kernel_rfl) ?_ _
        subst ha0
        clear hsz z0 z1 z4 z12 hS0 hS1 HS0 HCL2 HT HFa HC1 HC3 HQ
        go_simp
        go_wp2
        go_roundw
        case rel => exact ⟨i, h, by omega, by omega, by omega, rfl, rfl, HQ2.out⟩
        case measure => simp [intOf]; omega
      · have en : decide (d < 0) = false := decide_eq_false hneg
        have HQ := HT.out hneg
        have HQ2 : Hid (Sw g w wr.drew.drew l ∧ (h + 1 = a ∨ lt K (L.getD (h + 1 - 1 - a) 0) y) ∧ (j = m ∨ lt K y (L.getD (j - a) 0))) := ⟨hS1, HQ.1, HQ.2⟩
        refine h_take (i := 10) (.bool false) rfl (by kernel_rfl) (by kernel_rfl) (by kernel_rfl) (fun _ _ _ h => h) rfl hS1 (fun W hW => by simp [execOp, go_sem, Act.put, hsz, z0, z1, z4, z12, en]) ?_
        refine h_take (i := 11) (.bool true) rfl (by kernel_rfl) (by kernel_rfl) (by kernel_rfl) (fun _ _ _ h => h) rfl hS1 (fun W hW => by simp [execOp, go_sem, Act.put, hsz, z0, z1, z4, z12, en]) ?_
        refine wpAnyH_done (by kernel_rfl) ?_ _
        subst ha0
        clear hsz z0 z1 z4 z12 hS0 hS1 HS0 HCL2 HT HFa HC1 HC3 HQ
        go_simp
        go_wp2
        go_roundw
        case rel => exact ⟨h + 1, j, by omega, by omega, hj, by go_num, rfl, HQ2.out⟩
        case measure => simp [intOf]; omega
    · have hij : i = j := by omega
      subst hij
      have HG2 : Hid (Srt K (L.take (i - a) ++ y :: L.drop (i - a)) ∧ (L.take (i - a) ++ y :: L.drop (i - a)).Perm (y :: L)) := HF.out i hi hj HA.out.2.1 HA.out.2.2
      have HS : Hid (Sw g w wr (A ++ (L.take (m - a) ++ (y :: (L.drop (m - a) ++ B))))) := by have := HA.out.1; rw [HR0.out] at this; exact this
      clear HA HF HC2 HCL HY HC1 HR0 HLow
      go_wp2
      go_loopw [17] (fun kv wr => ∃ k : Nat, i ≤ k ∧ k ≤ m ∧ kv = .int .i64 (k : Int) ∧ Hid (Sw g w wr (A ++ (L.take (k - a) ++ (y :: (L.drop (k - a) ++ B)))))) (fun kv _ => (intOf kv).toNat)
      case atStart => exact ⟨m, hj, by omega, rfl, HS.out⟩
      case round =>
        clear HS
        obtain ⟨k, hk1, hk2, rfl, HA⟩ := hrel
        by_cases hkI : ¬ i < k
        · have hkI' : k = i := by omega
          have HQ : Hid (∃ M, Sw g w wr (A ++ (M ++ B)) ∧ M.Perm (y :: L) ∧ Srt K M) := ⟨_, by have := HA.out; rw [hkI'] at this; simpa using this, HG2.out.2, HG2.out.1⟩
          clear HA HG2 HRN HRL
          go_wp2
          (try simp only [Exit.inBlock, Exit.then])
          refine bodyPost_ret (results_none rfl _ _ _) rfl ?_
          exact ⟨rfl, HQ.out⟩
        have hkI : i < k := by omega
        obtain ⟨E, hE⟩ : ∃ E, A ++ (L.take (k - a) ++ (y :: (L.drop (k - a) ++ B))) = E := ⟨_, rfl⟩
        have hEl : E.length = n := by rw [← hE]; exact HRL.out k (by omega) hk2
        have hEn : sw E (k - 1) k = A ++ (L.take (k - 1 - a) ++ (y :: (L.drop (k - 1 - a) ++ B))) := by rw [← hE]; exact HRN.out k (by omega) hk2
        have hS : Sw g w wr E := by rw [← hE]; exact HA.out
        have hc1 := hS.cell (j := k) (by omega)
        have hc2 := hS.cell (j := k - 1) (by omega)
        have hf1 := hS.free k
        have hf2 := hS.free (k - 1)
        have HB : Hid (Sw g w ((wr.drew.setCell ⟨g, k, none⟩ (.int .i64 (E.getD (k - 1) 0))).setCell ⟨g, k - 1, none⟩ (.int .i64 (E.getD k 0))) (A ++ (L.take (k - 1 - a) ++ (y :: (L.drop (k - 1 - a) ++ B))))) := by
          have := (hS.drew.set k (E.getD (k - 1) 0)).set (k - 1) (E.getD k 0)
          rw [sw_comm (by omega), hEn] at this
          exact this
        obtain ⟨p, hp⟩ : ∃ p, E.getD k 0 = p := ⟨_, rfl⟩
        obtain ⟨q, hq⟩ : ∃ q, E.getD (k - 1) 0 = q := ⟨_, rfl⟩
        rw [hp] at hc1 HB
        rw [hq] at hc2 HB
        obtain ⟨k', hk'⟩ : ∃ k', k - 1 = k' := ⟨_, rfl⟩
        rw [hk'] at hc2 hf2 HB
        have s3 : (k : Int) - 1 = (k' : Int) := by omega
        have hkn : k' < n := by omega
        clear HA HRN HRL hS hEn hEl hE hp hq HG2
        go_wp2_with fail
        go_region
        go_wp2
        go_roundw
        case rel => exact ⟨k', by omega, by omega, rfl, HB.out⟩
        case measure => simp [intOf]; omega
end Go.Proofs.Ytcenaleladjakab.budget
