/- budget: what slices' symMerge does to a row of numbers of which two neighbouring parts are sorted. -/
import Derived.Test.YtcenaleladjakabBudD
namespace Go.Proofs.Ytcenaleladjakab.budget
open Go Go.RowKit
set_option linter.unusedVariables false
set_option linter.unusedSimpArgs false
set_option maxRecDepth 100000

def SymC (X g : Nat) (N : Int) (K : Int → Int) (s : Nat) : Prop := ∀ (A L R B : List Int) (n a m b : Nat) (w : World), L.length + R.length ≤ s → w.heap[g]? = some (bv 3 (ivs (A ++ (L ++ (R ++ B))))) → A.length = a → a + L.length = m → m + R.length = b → 1 ≤ L.length → 1 ≤ R.length → (A ++ (L ++ (R ++ B))).length = n → n ≤ 1000 → Srt K L → Srt K R → Low L R → (∀ x ∈ L ++ R, 0 ≤ x ∧ x < N) → Cmp g X N K w →
  Calls Try.prog 27 #[.slice (some ⟨g, 0, none⟩) n n, .int .i64 (a : Int), .int .i64 (m : Int), .int .i64 (b : Int), cmpF X] w fun e u => e = .returned (.tuple #[]) ∧ ∃ M, Sw g w u (A ++ (M ++ B)) ∧ M.Perm (L ++ R) ∧ Srt K M
/-- where symMerge parts: the first i of L and the first j of R come first -/
structure Part (K : Int → Int) (L R : List Int) (i j : Nat) : Prop where
  hi : i ≤ L.length
  hj : j ≤ R.length
  ha : ∀ x ∈ L.take i, ∀ y ∈ R.drop j, lt K x y
  hb : ∀ y ∈ R.take j, ∀ x ∈ L.drop i, lt K y x
theorem Part.done {K : Int → Int} {L R M N : List Int} {i j : Nat} (h : Part K L R i j) (hL : Srt K L) (hR : Srt K R) (hM : M.Perm (L.take i ++ R.take j)) (hN : N.Perm (L.drop i ++ R.drop j)) (sM : Srt K M) (sN : Srt K N) : Srt K (M ++ N) ∧ (M ++ N).Perm (L ++ R) := by
  have := cut_srt (by rw [List.take_append_drop]; exact hL) (by rw [List.take_append_drop]; exact hR) h.ha h.hb hM hN sM sN
  rw [List.take_append_drop, List.take_append_drop] at this
  exact this
theorem srt_one {K : Int → Int} {L R : List Int} (hL : Srt K L) (hR : Srt K R) (h : L = [] ∨ R = []) : Srt K (L ++ R) := by
  rcases h with rfl | rfl
  · simpa using hR
  · simpa using hL
theorem Srt.take {K : Int → Int} {L : List Int} (h : Srt K L) (i : Nat) : Srt K (L.take i) := List.Pairwise.sublist (List.take_sublist ..) h
theorem Srt.drop {K : Int → Int} {L : List Int} (h : Srt K L) (i : Nat) : Srt K (L.drop i) := List.Pairwise.sublist (List.drop_sublist ..) h
theorem Low.cut {L R : List Int} (h : Low L R) (i j : Nat) : Low (L.take i) (R.take j) ∧ Low (L.drop i) (R.drop j) := ⟨fun x hx y hy => h x (List.mem_of_mem_take hx) y (List.mem_of_mem_take hy), fun x hx y hy => h x (List.mem_of_mem_drop hx) y (List.mem_of_mem_drop hy)⟩
set_option maxHeartbeats 8000000 in
theorem sym_3 (g X : Nat) (N : Int) (K : Int → Int) (s : Nat) (ih : SymC X g N K s) (A L R B : List Int) (n a m b : Nat) (w : World) (hs : L.length + R.length ≤ s + 1) (hw : w.heap[g]? = some (bv 3 (ivs (A ++ (L ++ (R ++ B)))))) (ha : A.length = a) (hm : a + L.length = m) (hb : m + R.length = b) (hL2 : 2 ≤ L.length) (hR2 : 2 ≤ R.length) (hn : (A ++ (L ++ (R ++ B))).length = n) (hn2 : n ≤ 1000) (hL : Srt K L) (hR : Srt K R) (hlow : Low L R) (hr : ∀ x ∈ L ++ R, 0 ≤ x ∧ x < N) (hC : Cmp g X N K w) :
    Calls Try.prog 27 #[.slice (some ⟨g, 0, none⟩) n n, .int .i64 (a : Int), .int .i64 (m : Int), .int .i64 (b : Int), cmpF X] w fun e u => e = .returned (.tuple #[]) ∧ ∃ M, Sw g w u (A ++ (M ++ B)) ∧ M.Perm (L ++ R) ∧ Srt K M := by
  have hbn : b ≤ n := by rw [← hn]; simp; omega
  have hmb : m + 2 ≤ b := by omega
  have ham : a + 2 ≤ m := by omega
  have e0 : (((m : Int) - (a : Int)) == 1) = false := by simp; omega
  have e1 : (((b : Int) - (m : Int)) == 1) = false := by simp; omega
  obtain ⟨mid, hmid⟩ : ∃ mid, (a + b) / 2 = mid := ⟨_, rfl⟩
  have s0 : ((a : Int) + (b : Int)) / 2 = (mid : Int) := by omega
  have hma : a < mid := by omega
  have hmb2 : mid < b := by omega
  obtain ⟨l, hl⟩ : ∃ l, A ++ (L ++ (R ++ B)) = l := ⟨_, rfl⟩
  rw [hl] at hw hn
  have HC1 : Hid (∀ u h, a ≤ h → h < m → Sw g w u l → u.cell? ⟨g, h, none⟩ = some (.int .i64 (L.getD (h - a) 0))) := fun u h h1 h2 hu => by
    have := hu.cell (j := h) (by omega)
    have e := at_app A (L ++ (R ++ B)) (h - a)
    rw [show A.length + (h - a) = h by omega, hl, at_fst _ (by omega)] at e
    rw [e] at this
    exact this
  have HC2 : Hid (∀ u h, m ≤ h → h < b → Sw g w u l → u.cell? ⟨g, h, none⟩ = some (.int .i64 (R.getD (h - m) 0))) := fun u h h1 h2 hu => by
    have := hu.cell (j := h) (by omega)
    have e := at_app (A ++ L) (R ++ B) (h - m)
    rw [show (A ++ L).length + (h - m) = h by simp; omega, show (A ++ L) ++ (R ++ B) = l by rw [← hl]; simp, at_fst _ (by omega)] at e
    rw [e] at this
    exact this
  have HX : Hid (∀ h, a ≤ h → h < m → L.getD (h - a) 0 ∈ L) := fun h h1 h2 => by rw [getD_at (by omega)]; exact List.getElem_mem _
  have HY : Hid (∀ h, m ≤ h → h < b → R.getD (h - m) 0 ∈ R) := fun h h1 h2 => by rw [getD_at (by omega)]; exact List.getElem_mem _
  have HCL : Hid (∀ u, Sw g w u l → ∀ x ∈ L, ∀ y ∈ R, Calls Try.prog 21 #[.int .i64 y, .int .i64 x, .pointer (some ⟨X, 0, none⟩)] u fun e u' => e = .returned (.int .i64 (K y - K x)) ∧ u' = u.drew) := fun u h x hx y hy => hC u h.chg y x (hr y (List.mem_append_right _ hy)) (hr x (List.mem_append_left _ hx))
  have HLow : Hid (Low L R) := hlow
  have HW : Hid (Sw g w w l) := Sw.refl hw
  have HP : Hid (∀ c lo hi, ((m > mid ∧ lo = mid + m - b ∧ hi = mid) ∨ (¬ m > mid ∧ lo = a ∧ hi = m)) → lo ≤ c → c ≤ hi → (c = lo ∨ lt K (L.getD (c - 1 - a) 0) (R.getD (mid - c) 0)) → (c = hi ∨ lt K (R.getD (mid - c - 1) 0) (L.getD (c - a) 0)) → Part K L R (c - a) (mid - c)) := fun c lo hi hv h1 h2 h3 h4 =>
    ⟨by omega, by omega, cut_a hL hR (by omega) (by omega) (h3.elim (fun q => by omega) (fun q => .inr (.inr (by rw [show c - a - 1 = c - 1 - a by omega]; exact q)))), cut_a hR hL (by omega) (by omega) (h4.elim (fun q => by omega) (fun q => .inr (.inr q)))⟩
  have HD : Hid (Srt K L ∧ Srt K R ∧ Low L R ∧ (∀ x ∈ L ++ R, 0 ≤ x ∧ x < N) ∧ Cmp g X N K w ∧ l = A ++ (L ++ (R ++ B)) ∧ l.length = n ∧ A.length = a ∧ a + L.length = m ∧ m + R.length = b) := ⟨hL, hR, hlow, hr, hC, hl.symm, hn, ha, hm, hb⟩
  have HIH : Hid (SymC X g N K s) := ih
  have hsb : b - a ≤ s + 1 := by omega
  clear hw ha hm hb hL2 hR2 hs hn hL hR hlow hr hC hl ih
  obtain ⟨nn, hnn⟩ : ∃ nn, mid + m = nn := ⟨_, rfl⟩
  have s2 : (mid : Int) + (m : Int) = (nn : Int) := by omega
  obtain ⟨p, hp⟩ : ∃ p, nn - 1 = p := ⟨_, rfl⟩
  have s3 : (nn : Int) - 1 = (p : Int) := by omega
  obtain ⟨lo, hi, hv⟩ : ∃ lo hi : Nat, (m > mid ∧ lo = mid + m - b ∧ hi = mid) ∨ (¬ m > mid ∧ lo = a ∧ hi = m) := by
    by_cases q : m > mid
    · exact ⟨_, _, .inl ⟨q, rfl, rfl⟩⟩
    · exact ⟨_, _, .inr ⟨q, rfl, rfl⟩⟩
  have hlo : a ≤ lo := by omega
  have hhi : hi ≤ m := by omega
  have hlh : lo ≤ hi := by omega
  have hpc : ∀ c, lo ≤ c → c < hi → m ≤ p - c ∧ p - c < b ∧ c ≤ p := fun c h1 h2 => by omega
  have HPC : Hid (∀ c, lo ≤ c → c < hi → m ≤ p - c ∧ p - c < b ∧ c ≤ p) := hpc
  clear hpc
  have HV : Hid ((m > mid ∧ lo = mid + m - b ∧ hi = mid) ∨ (¬ m > mid ∧ lo = a ∧ hi = m)) := hv
  go_enter Try.func27, Try.ntmps27
  by_cases hmm : mid < m
  · have hlo2 : lo = mid + m - b := by omega
    have hhi2 : hi = mid := by omega
    have s7 : (nn : Int) - (b : Int) = (lo : Int) := by omega
    go_wp2
    go_loopw [20, 21] (fun iv jv wr => ∃ c r : Nat, lo ≤ c ∧ c ≤ r ∧ r ≤ hi ∧ iv = .int .i64 (c : Int) ∧ jv = .int .i64 (r : Int) ∧ Hid (Sw g w wr l ∧ (c = lo ∨ lt K (L.getD (c - 1 - a) 0) (R.getD (mid - c) 0)) ∧ (r = hi ∨ lt K (R.getD (mid - r - 1) 0) (L.getD (r - a) 0)))) (fun iv jv _ => (intOf jv).toNat - (intOf iv).toNat)
    case atStart => exact ⟨lo, hi, by omega, by omega, by omega, by rw [show nn - b = lo by omega], by rw [hhi2], HW.out, .inl rfl, .inl rfl⟩
    case round =>
      clear HW
      obtain ⟨st, r, hst, hsr, hrh, rfl, rfl, HA⟩ := hrel
      by_cases hlt : st < r
      · obtain ⟨c, hc⟩ : ∃ c, (st + r) / 2 = c := ⟨_, rfl⟩
        have hc1 : st ≤ c := by omega
        have hc2 : c < r := by omega
        have s1 : ((st : Int) + (r : Int)) / 2 = (c : Int) := by omega
        obtain ⟨hp1, hp2, hp3⟩ := HPC.out c (by omega) (by omega)
        obtain ⟨q, hq⟩ : ∃ q, p - c = q := ⟨_, rfl⟩
        rw [hq] at hp1 hp2
        have s4 : (p : Int) - (c : Int) = (q : Int) := by omega
        have s5 : IntKind.i64.wrap (q : Int) = (q : Int) := by rw [IntKind.wrap_i64]; omega
        have hqn : q < n := by omega
        have hcn : c < n := by omega
        obtain ⟨x, hx⟩ : ∃ x, L.getD (c - a) 0 = x := ⟨_, rfl⟩
        obtain ⟨y, hy⟩ : ∃ y, R.getD (q - m) 0 = y := ⟨_, rfl⟩
        have hxL : x ∈ L := by rw [← hx]; exact HX.out c (by omega) (by omega)
        have hyR : y ∈ R := by rw [← hy]; exact HY.out q (by omega) (by omega)
        have HC3 : Hid (∀ u, Sw g w u l → u.cell? ⟨g, c, none⟩ = some (.int .i64 x)) := fun u hu => by rw [← hx]; exact HC1.out u c (by omega) (by omega) hu
        have HC4 : Hid (∀ u, Sw g w u l → u.cell? ⟨g, q, none⟩ = some (.int .i64 y)) := fun u hu => by rw [← hy]; exact HC2.out u q hp1 hp2 hu
        have HCL2 : Hid (∀ u, Sw g w u l → Calls Try.prog 21 #[.int .i64 y, .int .i64 x, .pointer (some ⟨X, 0, none⟩)] u fun e u' => e = .returned (.int .i64 (K y - K x)) ∧ u' = u.drew) := fun u hu => HCL.out u hu x hxL y hyR
        have HS0 : Hid (Sw g w wr.drew l) := HA.out.1.drew
        have HT : Hid (¬ K y - K x < 0 → (c + 1 = lo ∨ lt K (L.getD (c + 1 - 1 - a) 0) (R.getD (mid - (c + 1)) 0)) ∧ (r = hi ∨ lt K (R.getD (mid - r - 1) 0) (L.getD (r - a) 0))) := fun z => ⟨.inr (by rw [Nat.add_sub_cancel, hx, show mid - (c + 1) = q - m by omega, hy]; exact lt_not (HLow.out x hxL y hyR) (by omega)), HA.out.2.2⟩
        have HFa : Hid (K y - K x < 0 → (st = lo ∨ lt K (L.getD (st - 1 - a) 0) (R.getD (mid - st) 0)) ∧ (c = hi ∨ lt K (R.getD (mid - c - 1) 0) (L.getD (c - a) 0))) := fun z => ⟨HA.out.2.1, .inr (by rw [hx, show mid - c - 1 = q - m by omega, hy]; exact lt_of (HLow.out x hxL y hyR) (by omega))⟩
        obtain ⟨d, hd⟩ : ∃ d, K y - K x = d := ⟨_, rfl⟩
        rw [hd] at HCL2 HT HFa
        clear HA HC1 HC2 HCL HX HY HP HD HIH HLow HPC HV hx hy hxL hyR hd hv
        go_upto_region 35 with (fail)
        refine wp_abs (fun a0 => a0.tmps.size = 220 ∧ (∀ h, a0.tmps[0]'h = .slice (some ⟨g, 0, none⟩) n n) ∧ (∀ h, a0.tmps[22]'h = .int .i64 (p : Int)) ∧ (∀ h, a0.tmps[4]'h = cmpF X) ∧ (∀ hq, a0.tmps[23]'hq = .int .i64 (c : Int))) ⟨rfl, fun _ => rfl, fun _ => rfl, fun _ => rfl, fun _ => rfl⟩ ?_
        rintro a0 ⟨hsz, z0, z1, z4, z12⟩ ha0
        refine wp_region_held (S := fun W => Sw g w W l) (by kernel_rfl) ?_
        have hS0 : Sw g w wr.drew l := HS0.out
        refine h_take (i := 0) (cmpF X) rfl (by kernel_rfl) (by kernel_rfl) (by kernel_rfl) (fun _ _ _ h => h) rfl hS0 (fun W hW => by simp [execOp, go_sem, Act.put, hsz, z0, z1, z4, z12, hqn, hcn, s4, s5]) ?_
        refine h_take (i := 1) (.slice (some ⟨g, 0, none⟩) n n) rfl (by kernel_rfl) (by kernel_rfl) (by kernel_rfl) (fun _ _ _ h => h) rfl hS0 (fun W hW => by simp [execOp, go_sem, Act.put, hsz, z0, z1, z4, z12, hqn, hcn, s4, s5]) ?_
        refine h_take (i := 2) (.int .i64 (p : Int)) rfl (by kernel_rfl) (by kernel_rfl) (by kernel_rfl) (fun _ _ _ h => h) rfl hS0 (fun W hW => by simp [execOp, go_sem, Act.put, hsz, z0, z1, z4, z12, hqn, hcn, s4, s5]) ?_
        refine h_take (i := 3) (.int .i64 (c : Int)) rfl (by kernel_rfl) (by kernel_rfl) (by kernel_rfl) (fun _ _ _ h => h) rfl hS0 (fun W hW => by simp [execOp, go_sem, Act.put, hsz, z0, z1, z4, z12, hqn, hcn, s4, s5]) ?_
        refine h_take (i := 4) (.int .i64 (q : Int)) rfl (by kernel_rfl) (by kernel_rfl) (by kernel_rfl) (fun _ _ _ h => h) rfl hS0 (fun W hW => by simp [execOp, go_sem, Act.put, hsz, z0, z1, z4, z12, hqn, hcn, s4, s5]) ?_
        refine h_take (i := 5) (.pointer (some ⟨g, q, none⟩)) rfl (by kernel_rfl) (by kernel_rfl) (by kernel_rfl) (fun _ _ _ h => h) rfl hS0 (fun W hW => by simp [execOp, go_sem, Act.put, hsz, z0, z1, z4, z12, hqn, hcn, s4, s5]) ?_
        refine h_take (i := 6) (.int .i64 y) rfl (by kernel_rfl) (by kernel_rfl) (by kernel_rfl) (fun _ _ _ h => h) rfl hS0 (fun W hW => by simp [execOp, go_sem, Act.put, hsz, z0, z1, z4, z12, hqn, hcn, s4, s5, HC4.out W hW]) ?_
        refine h_take (i := 7) (.slice (some ⟨g, 0, none⟩) n n) rfl (by kernel_rfl) (by kernel_rfl) (by kernel_rfl) (fun _ _ _ h => h) rfl hS0 (fun W hW => by simp [execOp, go_sem, Act.put, hsz, z0, z1, z4, z12, hqn, hcn, s4, s5]) ?_
        refine h_take (i := 8) (.int .i64 (c : Int)) rfl (by kernel_rfl) (by kernel_rfl) (by kernel_rfl) (fun _ _ _ h => h) rfl hS0 (fun W hW => by simp [execOp, go_sem, Act.put, hsz, z0, z1, z4, z12, hqn, hcn, s4, s5]) ?_
        refine h_take (i := 9) (.pointer (some ⟨g, c, none⟩)) rfl (by kernel_rfl) (by kernel_rfl) (by kernel_rfl) (fun _ _ _ h => h) rfl hS0 (fun W hW => by simp [execOp, go_sem, Act.put, hsz, z0, z1, z4, z12, hqn, hcn, s4, s5]) ?_
        refine h_take (i := 10) (.int .i64 x) rfl (by kernel_rfl) (by kernel_rfl) (by kernel_rfl) (fun _ _ _ h => h) rfl hS0 (fun W hW => by simp [execOp, go_sem, Act.put, hsz, z0, z1, z4, z12, hqn, hcn, s4, s5, HC3.out W hW]) ?_
        refine h_call (i := 11) 21 #[.int .i64 y, .int .i64 x, .pointer (some ⟨X, 0, none⟩)] rfl (by kernel_rfl) rfl (by simp [execOp, go_sem, Act.put, hsz, z0, z1, z4, z12, hqn, hcn, s4, s5]) ((HCL2.out _ hS0).mono ?_)
        rintro e u1 ⟨rfl, rfl⟩
        refine ⟨_, rfl, hS0.drew, ?_⟩
        have hS1 : Sw g w wr.drew.drew l := hS0.drew
        by_cases hneg : d < 0
        · have en : decide (d < 0) = true := decide_eq_true hneg
          have HQ := HFa.out hneg
          have HQ2 : Hid (Sw g w wr.drew.drew l ∧ (st = lo ∨ lt K (L.getD (st - 1 - a) 0) (R.getD (mid - st) 0)) ∧ (c = hi ∨ lt K (R.getD (mid - c - 1) 0) (L.getD (c - a) 0))) := ⟨hS1, HQ.1, HQ.2⟩
          refine h_take (i := 12) (.bool true) rfl (by kernel_rfl) (by kernel_rfl) (by kernel_rfl) (fun _ _ _ h => h) rfl hS1 (fun W hW => by simp [execOp, go_sem, Act.put, hsz, z0, z1, z4, z12, en]) ?_
          refine h_take (i := 13) (.bool false) rfl (by kernel_rfl) (by kernel_rfl) (by kernel_rfl) (fun _ _ _ h => h) rfl hS1 (fun W hW => by simp [execOp, go_sem, Act.put, hsz, z0, z1, z4, z12, en]) ?_
          refine wpAnyH_done (by kernel_rfl) ?_ _
          subst ha0
          clear hsz z0 z1 z4 z12 hS0 hS1 HS0 HCL2 HT HFa HC3 HC4 HQ
          go_simp
          go_wp2
          go_roundw
          case rel => exact ⟨st, c, by omega, by omega, by omega, rfl, rfl, HQ2.out⟩
          case measure => simp [intOf]; omega
        · have en : decide (d < 0) = false := decide_eq_false hneg
          have HQ := HT.out hneg
          have HQ2 : Hid (Sw g w wr.drew.drew l ∧ (c + 1 = lo ∨ lt K (L.getD (c + 1 - 1 - a) 0) (R.getD (mid - (c + 1)) 0)) ∧ (r = hi ∨ lt K (R.getD (mid - r - 1) 0) (L.getD (r - a) 0))) := ⟨hS1, HQ.1, HQ.2⟩
          refine h_take (i := 12) (.bool false) rfl (by kernel_rfl) (by kernel_rfl) (by kernel_rfl) (fun _ _ _ h => h) rfl hS1 (fun W hW => by simp [execOp, go_sem, Act.put, hsz, z0, z1, z4, z12, en]) ?_
          refine h_take (i := 13) (.bool true) rfl (by kernel_rfl) (by kernel_rfl) (by kernel_rfl) (fun _ _ _ h => h) rfl hS1 (fun W hW => by simp [execOp, go_sem, Act.put, hsz, z0, z1, z4, z12, en]) ?_
          refine wpAnyH_done (by kernel_rfl) ?_ _
          subst ha0
          clear hsz z0 z1 z4 z12 hS0 hS1 HS0 HCL2 HT HFa HC3 HC4 HQ
          go_simp
          go_wp2
          go_roundw
          case rel => exact ⟨c + 1, r, by omega, by omega, hrh, by go_num, rfl, HQ2.out⟩
          case measure => simp [intOf]; omega
      · have hsr : st = r := by omega
        subst hsr
        have HPt : Hid (Part K L R (st - a) (mid - st)) := HP.out st lo hi HV.out hst hrh HA.out.2.1 HA.out.2.2
        have hsm : st ≤ mid := by have := HPt.out.hj; omega
        have hstm : st ≤ m := by omega
        obtain ⟨en, hen⟩ : ∃ en, nn - st = en := ⟨_, rfl⟩
        have s6 : (nn : Int) - (st : Int) = (en : Int) := by omega
        have hme : m ≤ en := by omega
        have hmide : mid ≤ en := by omega
        have heb : en ≤ b := by have h1 := HPt.out.hj; have h2 := HD.out.2.2.2.2.2.2.2.2.2; omega
        obtain ⟨L1, L2, hL12, hl1, hl2⟩ : ∃ L1 L2, L1 = L.take (st - a) ∧ L1.length = st - a ∧ L2 = L.drop (st - a) ∧ L2.length = m - st := ⟨_, _, rfl, by have := HPt.out.hi; simp; omega, rfl, by have h2 := HD.out.2.2.2.2.2.2.2.2.1; simp; omega⟩
        obtain ⟨R1, R2, hR12, hr1, hr2⟩ : ∃ R1 R2, R1 = R.take (mid - st) ∧ R1.length = mid - st ∧ R2 = R.drop (mid - st) ∧ R2.length = b - en := ⟨_, _, rfl, by have := HPt.out.hj; simp; omega, rfl, by have h2 := HD.out.2.2.2.2.2.2.2.2.2; simp; omega⟩
        have HLL : Hid (L = L1 ++ L2 ∧ R = R1 ++ R2) := ⟨by rw [hL12, hl2.1, List.take_append_drop], by rw [hR12, hr2.1, List.take_append_drop]⟩
        have HDone : Hid (∀ M N : List Int, M.Perm (L1 ++ R1) → N.Perm (L2 ++ R2) → Srt K M → Srt K N → Srt K (M ++ N) ∧ (M ++ N).Perm (L ++ R)) := fun M N h1 h2 h3 h4 => HPt.out.done HD.out.1 HD.out.2.1 (by rw [← hL12, ← hR12]; exact h1) (by rw [← hl2.1, ← hr2.1]; exact h2) h3 h4
        have HSr : Hid (Srt K L1 ∧ Srt K L2 ∧ Srt K R1 ∧ Srt K R2 ∧ Low L1 R1 ∧ Low L2 R2) := ⟨by rw [hL12]; exact HD.out.1.take _, by rw [hl2.1]; exact HD.out.1.drop _, by rw [hR12]; exact HD.out.2.1.take _, by rw [hr2.1]; exact HD.out.2.1.drop _, by rw [hL12, hR12]; exact (HD.out.2.2.1.cut _ _).1, by rw [hl2.1, hr2.1]; exact (HD.out.2.2.1.cut _ _).2⟩
        have HLn : Hid (L1.length = st - a ∧ L2.length = m - st ∧ R1.length = mid - st ∧ R2.length = b - en) := ⟨hl1, hl2.2, hr1, hr2.2⟩
        have HS : Hid (Sw g w wr ((A ++ L1) ++ (L2 ++ (R1 ++ (R2 ++ B))))) := by
          have := HA.out.1
          rw [HD.out.2.2.2.2.2.1, HLL.out.1, HLL.out.2] at this
          show Sw _ _ _ _
          simpa using this
        have HN : Hid (A.length + (L1.length + L2.length + R1.length + R2.length + B.length) = n ∧ A.length = a) := ⟨by have h1 := HD.out.2.2.2.2.2.2.1; rw [HD.out.2.2.2.2.2.1, HLL.out.1, HLL.out.2] at h1; simp at h1; omega, HD.out.2.2.2.2.2.2.2.1⟩
        have HRg : Hid ((∀ x ∈ L1 ++ R1, 0 ≤ x ∧ x < N) ∧ (∀ x ∈ L2 ++ R2, 0 ≤ x ∧ x < N)) := by
          have h1 := HD.out.2.2.2.1
          rw [HLL.out.1, HLL.out.2] at h1
          exact ⟨fun x hx => h1 x (by simp at hx ⊢; rcases hx with q | q <;> simp [q]), fun x hx => h1 x (by simp at hx ⊢; rcases hx with q | q <;> simp [q])⟩
        have HCm : Hid (Cmp g X N K w) := HD.out.2.2.2.2.1
        have HROT : Hid (st < m → m < en → Calls Try.prog 28 #[.slice (some ⟨g, 0, none⟩) n n, .int .i64 (st : Int), .int .i64 (m : Int), .int .i64 (en : Int), cmpF X] wr fun e u => e = .returned (.tuple #[]) ∧ Sw g wr u ((A ++ L1) ++ (R1 ++ (L2 ++ (R2 ++ B))))) := fun h1 h2 =>
          rotate_any g (A ++ L1) L2 R1 (R2 ++ B) n st m en _ wr HS.out.lies (by have := HLn.out; omega) (by have := HLn.out; omega) (by have h3 := HLn.out; have h4 := HN.out; simp; omega) (by have := HLn.out; omega) (by have := HLn.out; omega) (by have h3 := HN.out; simp; omega) hn2
        have HLE : Hid (∀ u, a < st → st < mid → Sw g w u (A ++ (L1 ++ (R1 ++ (L2 ++ (R2 ++ B))))) → Calls Try.prog 27 #[.slice (some ⟨g, 0, none⟩) n n, .int .i64 (a : Int), .int .i64 (st : Int), .int .i64 (mid : Int), cmpF X] u fun e v => e = .returned (.tuple #[]) ∧ ∃ M, Sw g u v (A ++ (M ++ (L2 ++ (R2 ++ B)))) ∧ M.Perm (L1 ++ R1) ∧ Srt K M) := fun u h1 h2 h3 =>
          HIH.out A L1 R1 (L2 ++ (R2 ++ B)) n a st mid u (by have := HLn.out; omega) h3.lies HN.out.2 (by have := HLn.out; omega) (by have := HLn.out; omega) (by have := HLn.out; omega) (by have := HLn.out; omega) (by have h3 := HN.out; simp; omega) hn2 HSr.out.1 HSr.out.2.2.1 HSr.out.2.2.2.2.1 HRg.out.1 (HCm.out.on h3.chg)
        have HRI : Hid (∀ u M, M.Perm (L1 ++ R1) → mid < en → en < b → Sw g w u ((A ++ M) ++ (L2 ++ (R2 ++ B))) → Calls Try.prog 27 #[.slice (some ⟨g, 0, none⟩) n n, .int .i64 (mid : Int), .int .i64 (en : Int), .int .i64 (b : Int), cmpF X] u fun e v => e = .returned (.tuple #[]) ∧ ∃ N, Sw g u v ((A ++ M) ++ (N ++ B)) ∧ N.Perm (L2 ++ R2) ∧ Srt K N) := fun u M h0 h1 h2 h3 =>
          HIH.out (A ++ M) L2 R2 B n mid en b u (by have := HLn.out; omega) h3.lies (by have h4 := h0.length_eq; have h5 := HLn.out; have h6 := HN.out; simp at h4 ⊢; omega) (by have := HLn.out; omega) (by have := HLn.out; omega) (by have := HLn.out; omega) (by have := HLn.out; omega) (by have h4 := h0.length_eq; have h3 := HN.out; simp at h4 ⊢; omega) hn2 HSr.out.2.1 HSr.out.2.2.2.1 HSr.out.2.2.2.2.2 HRg.out.2 (HCm.out.on h3.chg)
        have HLno : Hid (¬ (a < st ∧ st < mid) → Srt K (L1 ++ R1)) := fun h => srt_one HSr.out.1 HSr.out.2.2.1 (by
          by_cases q : a < st
          · exact .inr (List.eq_nil_of_length_eq_zero (by have := HLn.out; omega))
          · exact .inl (List.eq_nil_of_length_eq_zero (by have := HLn.out; omega)))
        have HRno : Hid (¬ (mid < en ∧ en < b) → Srt K (L2 ++ R2)) := fun h => srt_one HSr.out.2.1 HSr.out.2.2.2.1 (by
          by_cases q : mid < en
          · exact .inr (List.eq_nil_of_length_eq_zero (by have := HLn.out; omega))
          · exact .inl (List.eq_nil_of_length_eq_zero (by have := HLn.out; omega)))
        have HTno : Hid (¬ (st < m ∧ m < en) → Sw g w wr (A ++ (L1 ++ (R1 ++ (L2 ++ (R2 ++ B)))))) := fun h => by
          have h0 := HS.out
          by_cases q : st < m
          · have : R1 = [] := List.eq_nil_of_length_eq_zero (by have := HLn.out; omega)
            subst this
            simpa using h0
          · have : L2 = [] := List.eq_nil_of_length_eq_zero (by have := HLn.out; omega)
            subst this
            simpa using h0
        clear HA HC1 HC2 HCL HX HY HP HD HIH HLow HPC HV HPt HLL HSr HLn HN HRg HCm hL12 hl1 hl2 hR12 hr1 hr2 hv
        by_cases t1 : st < m ∧ m < en
        · have t1a := t1.1
          have t1b := t1.2
          clear t1
          go_wp2_with fail
          refine (HROT.out t1a t1b).mono ?_
          rintro e u1 ⟨rfl, h1⟩
          have HSt : Hid (Sw g w u1 (A ++ (L1 ++ (R1 ++ (L2 ++ (R2 ++ B)))))) := by have := HS.out.then h1; show Sw _ _ _ _; simpa using this
          clear h1 HROT HTno HS
          by_cases t2 : a < st ∧ st < mid
          · have t2a := t2.1
            have t2b := t2.2
            clear t2
            go_wp2_with fail
            refine (HLE.out _ t2a t2b HSt.out).mono ?_
            rintro e u2 ⟨rfl, M, h1, h2, h3⟩
            have HSu : Hid (Sw g w u2 ((A ++ M) ++ (L2 ++ (R2 ++ B)))) := by have := HSt.out.then h1; show Sw _ _ _ _; simpa using this
            have HM : Hid (M.Perm (L1 ++ R1) ∧ Srt K M) := ⟨h2, h3⟩
            clear h1 h2 h3 HLE HLno HSt
            by_cases t3 : mid < en ∧ en < b
            · have t3a := t3.1
              have t3b := t3.2
              go_wp2_with fail
              refine (HRI.out _ M HM.out.1 t3a t3b HSu.out).mono ?_
              rintro e v ⟨rfl, N', h1, h2, h3⟩
              have HQ : Hid (∃ M, Sw g w v (A ++ (M ++ B)) ∧ M.Perm (L ++ R) ∧ Srt K M) := ⟨M ++ N', by have := HSu.out.then h1; simpa using this, (HDone.out M N' HM.out.1 h2 HM.out.2 h3).2, (HDone.out M N' HM.out.1 h2 HM.out.2 h3).1⟩
              clear h1 h2 h3 HRI HRno HDone HSu HM
              go_wp2
              go_end0
              exact ⟨rfl, HQ.out⟩
            · have HQ : Hid (∃ M, Sw g w u2 (A ++ (M ++ B)) ∧ M.Perm (L ++ R) ∧ Srt K M) := ⟨M ++ (L2 ++ R2), by have := HSu.out; simpa using this, (HDone.out M (L2 ++ R2) HM.out.1 (List.Perm.refl _) HM.out.2 (HRno.out t3)).2, (HDone.out M (L2 ++ R2) HM.out.1 (List.Perm.refl _) HM.out.2 (HRno.out t3)).1⟩
              clear HRI HRno HDone HSu HM
              by_cases t3a : mid < en
              · have t3b : ¬ en < b := fun z => t3 ⟨t3a, z⟩
                clear t3
                go_wp2
                go_end0
                exact ⟨rfl, HQ.out⟩
              · clear t3
                go_wp2
                go_end0
                exact ⟨rfl, HQ.out⟩
          · obtain ⟨M, hM⟩ : ∃ M, L1 ++ R1 = M := ⟨_, rfl⟩
            have HSu : Hid (Sw g w u1 ((A ++ M) ++ (L2 ++ (R2 ++ B)))) := by show Sw _ _ _ _; rw [← hM]; have := HSt.out; simpa using this
            have HM : Hid (M.Perm (L1 ++ R1) ∧ Srt K M) := by rw [← hM]; exact ⟨List.Perm.refl _, HLno.out t2⟩
            clear hM HLE HLno HSt
            by_cases t2a : a < st
            · have t2b : ¬ st < mid := fun z => t2 ⟨t2a, z⟩
              clear t2
              by_cases t3 : mid < en ∧ en < b
              · have t3a := t3.1
                have t3b := t3.2
                go_wp2_with fail
                refine (HRI.out _ M HM.out.1 t3a t3b HSu.out).mono ?_
                rintro e v ⟨rfl, N', h1, h2, h3⟩
                have HQ : Hid (∃ M, Sw g w v (A ++ (M ++ B)) ∧ M.Perm (L ++ R) ∧ Srt K M) := ⟨M ++ N', by have := HSu.out.then h1; simpa using this, (HDone.out M N' HM.out.1 h2 HM.out.2 h3).2, (HDone.out M N' HM.out.1 h2 HM.out.2 h3).1⟩
                clear h1 h2 h3 HRI HRno HDone HSu HM
                go_wp2
                go_end0
                exact ⟨rfl, HQ.out⟩
              · have HQ : Hid (∃ M, Sw g w u1 (A ++ (M ++ B)) ∧ M.Perm (L ++ R) ∧ Srt K M) := ⟨M ++ (L2 ++ R2), by have := HSu.out; simpa using this, (HDone.out M (L2 ++ R2) HM.out.1 (List.Perm.refl _) HM.out.2 (HRno.out t3)).2, (HDone.out M (L2 ++ R2) HM.out.1 (List.Perm.refl _) HM.out.2 (HRno.out t3)).1⟩
                clear HRI HRno HDone HSu HM
                by_cases t3a : mid < en
                · have t3b : ¬ en < b := fun z => t3 ⟨t3a, z⟩
                  clear t3
                  go_wp2
                  go_end0
                  exact ⟨rfl, HQ.out⟩
                · clear t3
                  go_wp2
                  go_end0
                  exact ⟨rfl, HQ.out⟩
            · clear t2
              by_cases t3 : mid < en ∧ en < b
              · have t3a := t3.1
                have t3b := t3.2
                go_wp2_with fail
                refine (HRI.out _ M HM.out.1 t3a t3b HSu.out).mono ?_
                rintro e v ⟨rfl, N', h1, h2, h3⟩
                have HQ : Hid (∃ M, Sw g w v (A ++ (M ++ B)) ∧ M.Perm (L ++ R) ∧ Srt K M) := ⟨M ++ N', by have := HSu.out.then h1; simpa using this, (HDone.out M N' HM.out.1 h2 HM.out.2 h3).2, (HDone.out M N' HM.out.1 h2 HM.out.2 h3).1⟩
                clear h1 h2 h3 HRI HRno HDone HSu HM
                go_wp2
                go_end0
                exact ⟨rfl, HQ.out⟩
              · have HQ : Hid (∃ M, Sw g w u1 (A ++ (M ++ B)) ∧ M.Perm (L ++ R) ∧ Srt K M) := ⟨M ++ (L2 ++ R2), by have := HSu.out; simpa using this, (HDone.out M (L2 ++ R2) HM.out.1 (List.Perm.refl _) HM.out.2 (HRno.out t3)).2, (HDone.out M (L2 ++ R2) HM.out.1 (List.Perm.refl _) HM.out.2 (HRno.out t3)).1⟩
                clear HRI HRno HDone HSu HM
                by_cases t3a : mid < en
                · have t3b : ¬ en < b := fun z => t3 ⟨t3a, z⟩
                  clear t3
                  go_wp2
                  go_end0
                  exact ⟨rfl, HQ.out⟩
                · clear t3
                  go_wp2
                  go_end0
                  exact ⟨rfl, HQ.out⟩
        · have HSt : Hid (Sw g w wr (A ++ (L1 ++ (R1 ++ (L2 ++ (R2 ++ B)))))) := HTno.out t1
          clear HROT HTno HS
          by_cases t1a : st < m
          · have t1b : ¬ m < en := fun z => t1 ⟨t1a, z⟩
            clear t1
            by_cases t2 : a < st ∧ st < mid
            · have t2a := t2.1
              have t2b := t2.2
              clear t2
              go_wp2_with fail
              refine (HLE.out _ t2a t2b HSt.out).mono ?_
              rintro e u2 ⟨rfl, M, h1, h2, h3⟩
              have HSu : Hid (Sw g w u2 ((A ++ M) ++ (L2 ++ (R2 ++ B)))) := by have := HSt.out.then h1; show Sw _ _ _ _; simpa using this
              have HM : Hid (M.Perm (L1 ++ R1) ∧ Srt K M) := ⟨h2, h3⟩
              clear h1 h2 h3 HLE HLno HSt
              by_cases t3 : mid < en ∧ en < b
              · have t3a := t3.1
                have t3b := t3.2
                go_wp2_with fail
                refine (HRI.out _ M HM.out.1 t3a t3b HSu.out).mono ?_
                rintro e v ⟨rfl, N', h1, h2, h3⟩
                have HQ : Hid (∃ M, Sw g w v (A ++ (M ++ B)) ∧ M.Perm (L ++ R) ∧ Srt K M) := ⟨M ++ N', by have := HSu.out.then h1; simpa using this, (HDone.out M N' HM.out.1 h2 HM.out.2 h3).2, (HDone.out M N' HM.out.1 h2 HM.out.2 h3).1⟩
                clear h1 h2 h3 HRI HRno HDone HSu HM
                go_wp2
                go_end0
                exact ⟨rfl, HQ.out⟩
              · have HQ : Hid (∃ M, Sw g w u2 (A ++ (M ++ B)) ∧ M.Perm (L ++ R) ∧ Srt K M) := ⟨M ++ (L2 ++ R2), by have := HSu.out; simpa using this, (HDone.out M (L2 ++ R2) HM.out.1 (List.Perm.refl _) HM.out.2 (HRno.out t3)).2, (HDone.out M (L2 ++ R2) HM.out.1 (List.Perm.refl _) HM.out.2 (HRno.out t3)).1⟩
                clear HRI HRno HDone HSu HM
                by_cases t3a : mid < en
                · have t3b : ¬ en < b := fun z => t3 ⟨t3a, z⟩
                  clear t3
                  go_wp2
                  go_end0
                  exact ⟨rfl, HQ.out⟩
                · clear t3
                  go_wp2
                  go_end0
                  exact ⟨rfl, HQ.out⟩
            · obtain ⟨M, hM⟩ : ∃ M, L1 ++ R1 = M := ⟨_, rfl⟩
              have HSu : Hid (Sw g w wr ((A ++ M) ++ (L2 ++ (R2 ++ B)))) := by show Sw _ _ _ _; rw [← hM]; have := HSt.out; simpa using this
              have HM : Hid (M.Perm (L1 ++ R1) ∧ Srt K M) := by rw [← hM]; exact ⟨List.Perm.refl _, HLno.out t2⟩
              clear hM HLE HLno HSt
              by_cases t2a : a < st
              · have t2b : ¬ st < mid := fun z => t2 ⟨t2a, z⟩
                clear t2
                by_cases t3 : mid < en ∧ en < b
                · have t3a := t3.1
                  have t3b := t3.2
                  go_wp2_with fail
                  refine (HRI.out _ M HM.out.1 t3a t3b HSu.out).mono ?_
                  rintro e v ⟨rfl, N', h1, h2, h3⟩
                  have HQ : Hid (∃ M, Sw g w v (A ++ (M ++ B)) ∧ M.Perm (L ++ R) ∧ Srt K M) := ⟨M ++ N', by have := HSu.out.then h1; simpa using this, (HDone.out M N' HM.out.1 h2 HM.out.2 h3).2, (HDone.out M N' HM.out.1 h2 HM.out.2 h3).1⟩
                  clear h1 h2 h3 HRI HRno HDone HSu HM
                  go_wp2
                  go_end0
                  exact ⟨rfl, HQ.out⟩
                · have HQ : Hid (∃ M, Sw g w wr (A ++ (M ++ B)) ∧ M.Perm (L ++ R) ∧ Srt K M) := ⟨M ++ (L2 ++ R2), by have := HSu.out; simpa using this, (HDone.out M (L2 ++ R2) HM.out.1 (List.Perm.refl _) HM.out.2 (HRno.out t3)).2, (HDone.out M (L2 ++ R2) HM.out.1 (List.Perm.refl _) HM.out.2 (HRno.out t3)).1⟩
                  clear HRI HRno HDone HSu HM
                  by_cases t3a : mid < en
                  · have t3b : ¬ en < b := fun z => t3 ⟨t3a, z⟩
                    clear t3
                    go_wp2
                    go_end0
                    exact ⟨rfl, HQ.out⟩
                  · clear t3
                    go_wp2
                    go_end0
                    exact ⟨rfl, HQ.out⟩
              · clear t2
                by_cases t3 : mid < en ∧ en < b
                · have t3a := t3.1
                  have t3b := t3.2
                  go_wp2_with fail
                  refine (HRI.out _ M HM.out.1 t3a t3b HSu.out).mono ?_
                  rintro e v ⟨rfl, N', h1, h2, h3⟩
                  have HQ : Hid (∃ M, Sw g w v (A ++ (M ++ B)) ∧ M.Perm (L ++ R) ∧ Srt K M) := ⟨M ++ N', by have := HSu.out.then h1; simpa using this, (HDone.out M N' HM.out.1 h2 HM.out.2 h3).2, (HDone.out M N' HM.out.1 h2 HM.out.2 h3).1⟩
                  clear h1 h2 h3 HRI HRno HDone HSu HM
                  go_wp2
                  go_end0
                  exact ⟨rfl, HQ.out⟩
                · have HQ : Hid (∃ M, Sw g w wr (A ++ (M ++ B)) ∧ M.Perm (L ++ R) ∧ Srt K M) := ⟨M ++ (L2 ++ R2), by have := HSu.out; simpa using this, (HDone.out M (L2 ++ R2) HM.out.1 (List.Perm.refl _) HM.out.2 (HRno.out t3)).2, (HDone.out M (L2 ++ R2) HM.out.1 (List.Perm.refl _) HM.out.2 (HRno.out t3)).1⟩
                  clear HRI HRno HDone HSu HM
                  by_cases t3a : mid < en
                  · have t3b : ¬ en < b := fun z => t3 ⟨t3a, z⟩
                    clear t3
                    go_wp2
                    go_end0
                    exact ⟨rfl, HQ.out⟩
                  · clear t3
                    go_wp2
                    go_end0
                    exact ⟨rfl, HQ.out⟩
          · clear t1
            by_cases t2 : a < st ∧ st < mid
            · have t2a := t2.1
              have t2b := t2.2
              clear t2
              go_wp2_with fail
              refine (HLE.out _ t2a t2b HSt.out).mono ?_
              rintro e u2 ⟨rfl, M, h1, h2, h3⟩
              have HSu : Hid (Sw g w u2 ((A ++ M) ++ (L2 ++ (R2 ++ B)))) := by have := HSt.out.then h1; show Sw _ _ _ _; simpa using this
              have HM : Hid (M.Perm (L1 ++ R1) ∧ Srt K M) := ⟨h2, h3⟩
              clear h1 h2 h3 HLE HLno HSt
              by_cases t3 : mid < en ∧ en < b
              · have t3a := t3.1
                have t3b := t3.2
                go_wp2_with fail
                refine (HRI.out _ M HM.out.1 t3a t3b HSu.out).mono ?_
                rintro e v ⟨rfl, N', h1, h2, h3⟩
                have HQ : Hid (∃ M, Sw g w v (A ++ (M ++ B)) ∧ M.Perm (L ++ R) ∧ Srt K M) := ⟨M ++ N', by have := HSu.out.then h1; simpa using this, (HDone.out M N' HM.out.1 h2 HM.out.2 h3).2, (HDone.out M N' HM.out.1 h2 HM.out.2 h3).1⟩
                clear h1 h2 h3 HRI HRno HDone HSu HM
                go_wp2
                go_end0
                exact ⟨rfl, HQ.out⟩
              · have HQ : Hid (∃ M, Sw g w u2 (A ++ (M ++ B)) ∧ M.Perm (L ++ R) ∧ Srt K M) := ⟨M ++ (L2 ++ R2), by have := HSu.out; simpa using this, (HDone.out M (L2 ++ R2) HM.out.1 (List.Perm.refl _) HM.out.2 (HRno.out t3)).2, (HDone.out M (L2 ++ R2) HM.out.1 (List.Perm.refl _) HM.out.2 (HRno.out t3)).1⟩
                clear HRI HRno HDone HSu HM
                by_cases t3a : mid < en
                · have t3b : ¬ en < b := fun z => t3 ⟨t3a, z⟩
                  clear t3
                  go_wp2
                  go_end0
                  exact ⟨rfl, HQ.out⟩
                · clear t3
                  go_wp2
                  go_end0
                  exact ⟨rfl, HQ.out⟩
            · obtain ⟨M, hM⟩ : ∃ M, L1 ++ R1 = M := ⟨_, rfl⟩
              have HSu : Hid (Sw g w wr ((A ++ M) ++ (L2 ++ (R2 ++ B)))) := by show Sw _ _ _ _; rw [← hM]; have := HSt.out; simpa using this
              have HM : Hid (M.Perm (L1 ++ R1) ∧ Srt K M) := by rw [← hM]; exact ⟨List.Perm.refl _, HLno.out t2⟩
              clear hM HLE HLno HSt
              by_cases t2a : a < st
              · have t2b : ¬ st < mid := fun z => t2 ⟨t2a, z⟩
                clear t2
                by_cases t3 : mid < en ∧ en < b
                · have t3a := t3.1
                  have t3b := t3.2
                  go_wp2_with fail
                  refine (HRI.out _ M HM.out.1 t3a t3b HSu.out).mono ?_
                  rintro e v ⟨rfl, N', h1, h2, h3⟩
                  have HQ : Hid (∃ M, Sw g w v (A ++ (M ++ B)) ∧ M.Perm (L ++ R) ∧ Srt K M) := ⟨M ++ N', by have := HSu.out.then h1; simpa using this, (HDone.out M N' HM.out.1 h2 HM.out.2 h3).2, (HDone.out M N' HM.out.1 h2 HM.out.2 h3).1⟩
                  clear h1 h2 h3 HRI HRno HDone HSu HM
                  go_wp2
                  go_end0
                  exact ⟨rfl, HQ.out⟩
                · have HQ : Hid (∃ M, Sw g w wr (A ++ (M ++ B)) ∧ M.Perm (L ++ R) ∧ Srt K M) := ⟨M ++ (L2 ++ R2), by have := HSu.out; simpa using this, (HDone.out M (L2 ++ R2) HM.out.1 (List.Perm.refl _) HM.out.2 (HRno.out t3)).2, (HDone.out M (L2 ++ R2) HM.out.1 (List.Perm.refl _) HM.out.2 (HRno.out t3)).1⟩
                  clear HRI HRno HDone HSu HM
                  by_cases t3a : mid < en
                  · have t3b : ¬ en < b := fun z => t3 ⟨t3a, z⟩
                    clear t3
                    go_wp2
                    go_end0
                    exact ⟨rfl, HQ.out⟩
                  · clear t3
                    go_wp2
                    go_end0
                    exact ⟨rfl, HQ.out⟩
              · clear t2
                by_cases t3 : mid < en ∧ en < b
                · have t3a := t3.1
                  have t3b := t3.2
                  go_wp2_with fail
                  refine (HRI.out _ M HM.out.1 t3a t3b HSu.out).mono ?_
                  rintro e v ⟨rfl, N', h1, h2, h3⟩
                  have HQ : Hid (∃ M, Sw g w v (A ++ (M ++ B)) ∧ M.Perm (L ++ R) ∧ Srt K M) := ⟨M ++ N', by have := HSu.out.then h1; simpa using this, (HDone.out M N' HM.out.1 h2 HM.out.2 h3).2, (HDone.out M N' HM.out.1 h2 HM.out.2 h3).1⟩
                  clear h1 h2 h3 HRI HRno HDone HSu HM
                  go_wp2
                  go_end0
                  exact ⟨rfl, HQ.out⟩
                · have HQ : Hid (∃ M, Sw g w wr (A ++ (M ++ B)) ∧ M.Perm (L ++ R) ∧ Srt K M) := ⟨M ++ (L2 ++ R2), by have := HSu.out; simpa using this, (HDone.out M (L2 ++ R2) HM.out.1 (List.Perm.refl _) HM.out.2 (HRno.out t3)).2, (HDone.out M (L2 ++ R2) HM.out.1 (List.Perm.refl _) HM.out.2 (HRno.out t3)).1⟩
                  clear HRI HRno HDone HSu HM
                  by_cases t3a : mid < en
                  · have t3b : ¬ en < b := fun z => t3 ⟨t3a, z⟩
                    clear t3
                    go_wp2
                    go_end0
                    exact ⟨rfl, HQ.out⟩
                  · clear t3
                    go_wp2
                    go_end0
                    exact ⟨rfl, HQ.out⟩
  · have hlo2 : lo = a := by omega
    have hhi2 : hi = m := by omega
    go_wp2
    go_loopw [20, 21] (fun iv jv wr => ∃ c r : Nat, lo ≤ c ∧ c ≤ r ∧ r ≤ hi ∧ iv = .int .i64 (c : Int) ∧ jv = .int .i64 (r : Int) ∧ Hid (Sw g w wr l ∧ (c = lo ∨ lt K (L.getD (c - 1 - a) 0) (R.getD (mid - c) 0)) ∧ (r = hi ∨ lt K (R.getD (mid - r - 1) 0) (L.getD (r - a) 0)))) (fun iv jv _ => (intOf jv).toNat - (intOf iv).toNat)
    case atStart => exact ⟨lo, hi, by omega, by omega, by omega, by rw [hlo2], by rw [hhi2], HW.out, .inl rfl, .inl rfl⟩
    case round =>
      clear HW
      obtain ⟨st, r, hst, hsr, hrh, rfl, rfl, HA⟩ := hrel
      by_cases hlt : st < r
      · obtain ⟨c, hc⟩ : ∃ c, (st + r) / 2 = c := ⟨_, rfl⟩
        have hc1 : st ≤ c := by omega
        have hc2 : c < r := by omega
        have s1 : ((st : Int) + (r : Int)) / 2 = (c : Int) := by omega
        obtain ⟨hp1, hp2, hp3⟩ := HPC.out c (by omega) (by omega)
        obtain ⟨q, hq⟩ : ∃ q, p - c = q := ⟨_, rfl⟩
        rw [hq] at hp1 hp2
        have s4 : (p : Int) - (c : Int) = (q : Int) := by omega
        have s5 : IntKind.i64.wrap (q : Int) = (q : Int) := by rw [IntKind.wrap_i64]; omega
        have hqn : q < n := by omega
        have hcn : c < n := by omega
        obtain ⟨x, hx⟩ : ∃ x, L.getD (c - a) 0 = x := ⟨_, rfl⟩
        obtain ⟨y, hy⟩ : ∃ y, R.getD (q - m) 0 = y := ⟨_, rfl⟩
        have hxL : x ∈ L := by rw [← hx]; exact HX.out c (by omega) (by omega)
        have hyR : y ∈ R := by rw [← hy]; exact HY.out q (by omega) (by omega)
        have HC3 : Hid (∀ u, Sw g w u l → u.cell? ⟨g, c, none⟩ = some (.int .i64 x)) := fun u hu => by rw [← hx]; exact HC1.out u c (by omega) (by omega) hu
        have HC4 : Hid (∀ u, Sw g w u l → u.cell? ⟨g, q, none⟩ = some (.int .i64 y)) := fun u hu => by rw [← hy]; exact HC2.out u q hp1 hp2 hu
        have HCL2 : Hid (∀ u, Sw g w u l → Calls Try.prog 21 #[.int .i64 y, .int .i64 x, .pointer (some ⟨X, 0, none⟩)] u fun e u' => e = .returned (.int .i64 (K y - K x)) ∧ u' = u.drew) := fun u hu => HCL.out u hu x hxL y hyR
        have HS0 : Hid (Sw g w wr.drew l) := HA.out.1.drew
        have HT : Hid (¬ K y - K x < 0 → (c + 1 = lo ∨ lt K (L.getD (c + 1 - 1 - a) 0) (R.getD (mid - (c + 1)) 0)) ∧ (r = hi ∨ lt K (R.getD (mid - r - 1) 0) (L.getD (r - a) 0))) := fun z => ⟨.inr (by rw [Nat.add_sub_cancel, hx, show mid - (c + 1) = q - m by omega, hy]; exact lt_not (HLow.out x hxL y hyR) (by omega)), HA.out.2.2⟩
        have HFa : Hid (K y - K x < 0 → (st = lo ∨ lt K (L.getD (st - 1 - a) 0) (R.getD (mid - st) 0)) ∧ (c = hi ∨ lt K (R.getD (mid - c - 1) 0) (L.getD (c - a) 0))) := fun z => ⟨HA.out.2.1, .inr (by rw [hx, show mid - c - 1 = q - m by omega, hy]; exact lt_of (HLow.out x hxL y hyR) (by omega))⟩
        obtain ⟨d, hd⟩ : ∃ d, K y - K x = d := ⟨_, rfl⟩
        rw [hd] at HCL2 HT HFa
        clear HA HC1 HC2 HCL HX HY HP HD HIH HLow HPC HV hx hy hxL hyR hd hv
        go_upto_region 35 with (fail)
        refine wp_abs (fun a0 => a0.tmps.size = 220 ∧ (∀ h, a0.tmps[0]'h = .slice (some ⟨g, 0, none⟩) n n) ∧ (∀ h, a0.tmps[22]'h = .int .i64 (p : Int)) ∧ (∀ h, a0.tmps[4]'h = cmpF X) ∧ (∀ hq, a0.tmps[23]'hq = .int .i64 (c : Int))) ⟨rfl, fun _ => rfl, fun _ => rfl, fun _ => rfl, fun _ => rfl⟩ ?_
        rintro a0 ⟨hsz, z0, z1, z4, z12⟩ ha0
        refine wp_region_held (S := fun W => Sw g w W l) (by kernel_rfl) ?_
        have hS0 : Sw g w wr.drew l := HS0.out
        refine h_take (i := 0) (cmpF X) rfl (by kernel_rfl) (by kernel_rfl) (by kernel_rfl) (fun _ _ _ h => h) rfl hS0 (fun W hW => by simp [execOp, go_sem, Act.put, hsz, z0, z1, z4, z12, hqn, hcn, s4, s5]) ?_
        refine h_take (i := 1) (.slice (some ⟨g, 0, none⟩) n n) rfl (by kernel_rfl) (by kernel_rfl) (by kernel_rfl) (fun _ _ _ h => h) rfl hS0 (fun W hW => by simp [execOp, go_sem, Act.put, hsz, z0, z1, z4, z12, hqn, hcn, s4, s5]) ?_
        refine h_take (i := 2) (.int .i64 (p : Int)) rfl (by kernel_rfl) (by kernel_rfl) (by kernel_rfl) (fun _ _ _ h => h) rfl hS0 (fun W hW => by simp [execOp, go_sem, Act.put, hsz, z0, z1, z4, z12, hqn, hcn, s4, s5]) ?_
        refine h_take (i := 3) (.int .i64 (c : Int)) rfl (by kernel_rfl) (by kernel_rfl) (by kernel_rfl) (fun _ _ _ h => h) rfl hS0 (fun W hW => by simp [execOp, go_sem, Act.put, hsz, z0, z1, z4, z12, hqn, hcn, s4, s5]) ?_
        refine h_take (i := 4) (.int .i64 (q : Int)) rfl (by kernel_rfl) (by kernel_rfl) (by kernel_rfl) (fun _ _ _ h => h) rfl hS0 (fun W hW => by simp [execOp, go_sem, Act.put, hsz, z0, z1, z4, z12, hqn, hcn, s4, s5]) ?_
        refine h_take (i := 5) (.pointer (some ⟨g, q, none⟩)) rfl (by kernel_rfl) (by kernel_rfl) (by kernel_rfl) (fun _ _ _ h => h) rfl hS0 (fun W hW => by simp [execOp, go_sem, Act.put, hsz, z0, z1, z4, z12, hqn, hcn, s4, s5]) ?_
        refine h_take (i := 6) (.int .i64 y) rfl (by kernel_rfl) (by kernel_rfl) (by kernel_rfl) (fun _ _ _ h => h) rfl hS0 (fun W hW => by simp [execOp, go_sem, Act.put, hsz, z0, z1, z4, z12, hqn, hcn, s4, s5, HC4.out W hW]) ?_
        refine h_take (i := 7) (.slice (some ⟨g, 0, none⟩) n n) rfl (by kernel_rfl) (by kernel_rfl) (by kernel_rfl) (fun _ _ _ h => h) rfl hS0 (fun W hW => by simp [execOp, go_sem, Act.put, hsz, z0, z1, z4, z12, hqn, hcn, s4, s5]) ?_
        refine h_take (i := 8) (.int .i64 (c : Int)) rfl (by kernel_rfl) (by kernel_rfl) (by kernel_rfl) (fun _ _ _ h => h) rfl hS0 (fun W hW => by simp [execOp, go_sem, Act.put, hsz, z0, z1, z4, z12, hqn, hcn, s4, s5]) ?_
        refine h_take (i := 9) (.pointer (some ⟨g, c, none⟩)) rfl (by kernel_rfl) (by kernel_rfl) (by kernel_rfl) (fun _ _ _ h => h) rfl hS0 (fun W hW => by simp [execOp, go_sem, Act.put, hsz, z0, z1, z4, z12, hqn, hcn, s4, s5]) ?_
        refine h_take (i := 10) (.int .i64 x) rfl (by kernel_rfl) (by kernel_rfl) (by kernel_rfl) (fun _ _ _ h => h) rfl hS0 (fun W hW => by simp [execOp, go_sem, Act.put, hsz, z0, z1, z4, z12, hqn, hcn, s4, s5, HC3.out W hW]) ?_
        refine h_call (i := 11) 21 #[.int .i64 y, .int .i64 x, .pointer (some ⟨X, 0, none⟩)] rfl (by kernel_rfl) rfl (by simp [execOp, go_sem, Act.put, hsz, z0, z1, z4, z12, hqn, hcn, s4, s5]) ((HCL2.out _ hS0).mono ?_)
        rintro e u1 ⟨rfl, rfl⟩
        refine ⟨_, rfl, hS0.drew, ?_⟩
        have hS1 : Sw g w wr.drew.drew l := hS0.drew
        by_cases hneg : d < 0
        · have en : decide (d < 0) = true := decide_eq_true hneg
          have HQ := HFa.out hneg
          have HQ2 : Hid (Sw g w wr.drew.drew l ∧ (st = lo ∨ lt K (L.getD (st - 1 - a) 0) (R.getD (mid - st) 0)) ∧ (c = hi ∨ lt K (R.getD (mid - c - 1) 0) (L.getD (c - a) 0))) := ⟨hS1, HQ.1, HQ.2⟩
          refine h_take (i := 12) (.bool true) rfl (by kernel_rfl) (by kernel_rfl) (by kernel_rfl) (fun _ _ _ h => h) rfl hS1 (fun W hW => by simp [execOp, go_sem, Act.put, hsz, z0, z1, z4, z12, en]) ?_
          refine h_take (i := 13) (.bool false) rfl (by kernel_rfl) (by kernel_rfl) (by kernel_rfl) (fun _ _ _ h => h) rfl hS1 (fun W hW => by simp [execOp, go_sem, Act.put, hsz, z0, z1, z4, z12, en]) ?_
          refine wpAnyH_done (by kernel_rfl) ?_ _
          subst ha0
          clear hsz z0 z1 z4 z12 hS0 hS1 HS0 HCL2 HT HFa HC3 HC4 HQ
          go_simp
          go_wp2
          go_roundw
          case rel => exact ⟨st, c, by omega, by omega, by omega, rfl, rfl, HQ2.out⟩
          case measure => simp [intOf]; omega
        · have en : decide (d < 0) = false := decide_eq_false hneg
          have HQ := HT.out hneg
          have HQ2 : Hid (Sw g w wr.drew.drew l ∧ (c + 1 = lo ∨ lt K (L.getD (c + 1 - 1 - a) 0) (R.getD (mid - (c + 1)) 0)) ∧ (r = hi ∨ lt K (R.getD (mid - r - 1) 0) (L.getD (r - a) 0))) := ⟨hS1, HQ.1, HQ.2⟩
          refine h_take (i := 12) (.bool false) rfl (by kernel_rfl) (by kernel_rfl) (by kernel_rfl) (fun _ _ _ h => h) rfl hS1 (fun W hW => by simp [execOp, go_sem, Act.put, hsz, z0, z1, z4, z12, en]) ?_
          refine h_take (i := 13) (.bool true) rfl (by kernel_rfl) (by kernel_rfl) (by kernel_rfl) (fun _ _ _ h => h) rfl hS1 (fun W hW => by simp [execOp, go_sem, Act.put, hsz, z0, z1, z4, z12, en]) ?_
          refine wpAnyH_done (by kernel_rfl) ?_ _
          subst ha0
          clear hsz z0 z1 z4 z12 hS0 hS1 HS0 HCL2 HT HFa HC3 HC4 HQ
          go_simp
          go_wp2
          go_roundw
          case rel => exact ⟨c + 1, r, by omega, by omega, hrh, by go_num, rfl, HQ2.out⟩
          case measure => simp [intOf]; omega
      · have hsr : st = r := by omega
        subst hsr
        have HPt : Hid (Part K L R (st - a) (mid - st)) := HP.out st lo hi HV.out hst hrh HA.out.2.1 HA.out.2.2
        have hsm : st ≤ mid := by have := HPt.out.hj; omega
        have hstm : st ≤ m := by omega
        obtain ⟨en, hen⟩ : ∃ en, nn - st = en := ⟨_, rfl⟩
        have s6 : (nn : Int) - (st : Int) = (en : Int) := by omega
        have hme : m ≤ en := by omega
        have hmide : mid ≤ en := by omega
        have heb : en ≤ b := by have h1 := HPt.out.hj; have h2 := HD.out.2.2.2.2.2.2.2.2.2; omega
        obtain ⟨L1, L2, hL12, hl1, hl2⟩ : ∃ L1 L2, L1 = L.take (st - a) ∧ L1.length = st - a ∧ L2 = L.drop (st - a) ∧ L2.length = m - st := ⟨_, _, rfl, by have := HPt.out.hi; simp; omega, rfl, by have h2 := HD.out.2.2.2.2.2.2.2.2.1; simp; omega⟩
        obtain ⟨R1, R2, hR12, hr1, hr2⟩ : ∃ R1 R2, R1 = R.take (mid - st) ∧ R1.length = mid - st ∧ R2 = R.drop (mid - st) ∧ R2.length = b - en := ⟨_, _, rfl, by have := HPt.out.hj; simp; omega, rfl, by have h2 := HD.out.2.2.2.2.2.2.2.2.2; simp; omega⟩
        have HLL : Hid (L = L1 ++ L2 ∧ R = R1 ++ R2) := ⟨by rw [hL12, hl2.1, List.take_append_drop], by rw [hR12, hr2.1, List.take_append_drop]⟩
        have HDone : Hid (∀ M N : List Int, M.Perm (L1 ++ R1) → N.Perm (L2 ++ R2) → Srt K M → Srt K N → Srt K (M ++ N) ∧ (M ++ N).Perm (L ++ R)) := fun M N h1 h2 h3 h4 => HPt.out.done HD.out.1 HD.out.2.1 (by rw [← hL12, ← hR12]; exact h1) (by rw [← hl2.1, ← hr2.1]; exact h2) h3 h4
        have HSr : Hid (Srt K L1 ∧ Srt K L2 ∧ Srt K R1 ∧ Srt K R2 ∧ Low L1 R1 ∧ Low L2 R2) := ⟨by rw [hL12]; exact HD.out.1.take _, by rw [hl2.1]; exact HD.out.1.drop _, by rw [hR12]; exact HD.out.2.1.take _, by rw [hr2.1]; exact HD.out.2.1.drop _, by rw [hL12, hR12]; exact (HD.out.2.2.1.cut _ _).1, by rw [hl2.1, hr2.1]; exact (HD.out.2.2.1.cut _ _).2⟩
        have HLn : Hid (L1.length = st - a ∧ L2.length = m - st ∧ R1.length = mid - st ∧ R2.length = b - en) := ⟨hl1, hl2.2, hr1, hr2.2⟩
        have HS : Hid (Sw g w wr ((A ++ L1) ++ (L2 ++ (R1 ++ (R2 ++ B))))) := by
          have := HA.out.1
          rw [HD.out.2.2.2.2.2.1, HLL.out.1, HLL.out.2] at this
          show Sw _ _ _ _
          simpa using this
        have HN : Hid (A.length + (L1.length + L2.length + R1.length + R2.length + B.length) = n ∧ A.length = a) := ⟨by have h1 := HD.out.2.2.2.2.2.2.1; rw [HD.out.2.2.2.2.2.1, HLL.out.1, HLL.out.2] at h1; simp at h1; omega, HD.out.2.2.2.2.2.2.2.1⟩
        have HRg : Hid ((∀ x ∈ L1 ++ R1, 0 ≤ x ∧ x < N) ∧ (∀ x ∈ L2 ++ R2, 0 ≤ x ∧ x < N)) := by
          have h1 := HD.out.2.2.2.1
          rw [HLL.out.1, HLL.out.2] at h1
          exact ⟨fun x hx => h1 x (by simp at hx ⊢; rcases hx with q | q <;> simp [q]), fun x hx => h1 x (by simp at hx ⊢; rcases hx with q | q <;> simp [q])⟩
        have HCm : Hid (Cmp g X N K w) := HD.out.2.2.2.2.1
        have HROT : Hid (st < m → m < en → Calls Try.prog 28 #[.slice (some ⟨g, 0, none⟩) n n, .int .i64 (st : Int), .int .i64 (m : Int), .int .i64 (en : Int), cmpF X] wr fun e u => e = .returned (.tuple #[]) ∧ Sw g wr u ((A ++ L1) ++ (R1 ++ (L2 ++ (R2 ++ B))))) := fun h1 h2 =>
          rotate_any g (A ++ L1) L2 R1 (R2 ++ B) n st m en _ wr HS.out.lies (by have := HLn.out; omega) (by have := HLn.out; omega) (by have h3 := HLn.out; have h4 := HN.out; simp; omega) (by have := HLn.out; omega) (by have := HLn.out; omega) (by have h3 := HN.out; simp; omega) hn2
        have HLE : Hid (∀ u, a < st → st < mid → Sw g w u (A ++ (L1 ++ (R1 ++ (L2 ++ (R2 ++ B))))) → Calls Try.prog 27 #[.slice (some ⟨g, 0, none⟩) n n, .int .i64 (a : Int), .int .i64 (st : Int), .int .i64 (mid : Int), cmpF X] u fun e v => e = .returned (.tuple #[]) ∧ ∃ M, Sw g u v (A ++ (M ++ (L2 ++ (R2 ++ B)))) ∧ M.Perm (L1 ++ R1) ∧ Srt K M) := fun u h1 h2 h3 =>
          HIH.out A L1 R1 (L2 ++ (R2 ++ B)) n a st mid u (by have := HLn.out; omega) h3.lies HN.out.2 (by have := HLn.out; omega) (by have := HLn.out; omega) (by have := HLn.out; omega) (by have := HLn.out; omega) (by have h3 := HN.out; simp; omega) hn2 HSr.out.1 HSr.out.2.2.1 HSr.out.2.2.2.2.1 HRg.out.1 (HCm.out.on h3.chg)
        have HRI : Hid (∀ u M, M.Perm (L1 ++ R1) → mid < en → en < b → Sw g w u ((A ++ M) ++ (L2 ++ (R2 ++ B))) → Calls Try.prog 27 #[.slice (some ⟨g, 0, none⟩) n n, .int .i64 (mid : Int), .int .i64 (en : Int), .int .i64 (b : Int), cmpF X] u fun e v => e = .returned (.tuple #[]) ∧ ∃ N, Sw g u v ((A ++ M) ++ (N ++ B)) ∧ N.Perm (L2 ++ R2) ∧ Srt K N) := fun u M h0 h1 h2 h3 =>
          HIH.out (A ++ M) L2 R2 B n mid en b u (by have := HLn.out; omega) h3.lies (by have h4 := h0.length_eq; have h5 := HLn.out; have h6 := HN.out; simp at h4 ⊢; omega) (by have := HLn.out; omega) (by have := HLn.out; omega) (by have := HLn.out; omega) (by have := HLn.out; omega) (by have h4 := h0.length_eq; have h3 := HN.out; simp at h4 ⊢; omega) hn2 HSr.out.2.1 HSr.out.2.2.2.1 HSr.out.2.2.2.2.2 HRg.out.2 (HCm.out.on h3.chg)
        have HLno : Hid (¬ (a < st ∧ st < mid) → Srt K (L1 ++ R1)) := fun h => srt_one HSr.out.1 HSr.out.2.2.1 (by
          by_cases q : a < st
          · exact .inr (List.eq_nil_of_length_eq_zero (by have := HLn.out; omega))
          · exact .inl (List.eq_nil_of_length_eq_zero (by have := HLn.out; omega)))
        have HRno : Hid (¬ (mid < en ∧ en < b) → Srt K (L2 ++ R2)) := fun h => srt_one HSr.out.2.1 HSr.out.2.2.2.1 (by
          by_cases q : mid < en
          · exact .inr (List.eq_nil_of_length_eq_zero (by have := HLn.out; omega))
          · exact .inl (List.eq_nil_of_length_eq_zero (by have := HLn.out; omega)))
        have HTno : Hid (¬ (st < m ∧ m < en) → Sw g w wr (A ++ (L1 ++ (R1 ++ (L2 ++ (R2 ++ B)))))) := fun h => by
          have h0 := HS.out
          by_cases q : st < m
          · have : R1 = [] := List.eq_nil_of_length_eq_zero (by have := HLn.out; omega)
            subst this
            simpa using h0
          · have : L2 = [] := List.eq_nil_of_length_eq_zero (by have := HLn.out; omega)
            subst this
            simpa using h0
        clear HA HC1 HC2 HCL HX HY HP HD HIH HLow HPC HV HPt HLL HSr HLn HN HRg HCm hL12 hl1 hl2 hR12 hr1 hr2 hv
        by_cases t1 : st < m ∧ m < en
        · have t1a := t1.1
          have t1b := t1.2
          clear t1
          go_wp2_with fail
          refine (HROT.out t1a t1b).mono ?_
          rintro e u1 ⟨rfl, h1⟩
          have HSt : Hid (Sw g w u1 (A ++ (L1 ++ (R1 ++ (L2 ++ (R2 ++ B)))))) := by have := HS.out.then h1; show Sw _ _ _ _; simpa using this
          clear h1 HROT HTno HS
          by_cases t2 : a < st ∧ st < mid
          · have t2a := t2.1
            have t2b := t2.2
            clear t2
            go_wp2_with fail
            refine (HLE.out _ t2a t2b HSt.out).mono ?_
            rintro e u2 ⟨rfl, M, h1, h2, h3⟩
            have HSu : Hid (Sw g w u2 ((A ++ M) ++ (L2 ++ (R2 ++ B)))) := by have := HSt.out.then h1; show Sw _ _ _ _; simpa using this
            have HM : Hid (M.Perm (L1 ++ R1) ∧ Srt K M) := ⟨h2, h3⟩
            clear h1 h2 h3 HLE HLno HSt
            by_cases t3 : mid < en ∧ en < b
            · have t3a := t3.1
              have t3b := t3.2
              go_wp2_with fail
              refine (HRI.out _ M HM.out.1 t3a t3b HSu.out).mono ?_
              rintro e v ⟨rfl, N', h1, h2, h3⟩
              have HQ : Hid (∃ M, Sw g w v (A ++ (M ++ B)) ∧ M.Perm (L ++ R) ∧ Srt K M) := ⟨M ++ N', by have := HSu.out.then h1; simpa using this, (HDone.out M N' HM.out.1 h2 HM.out.2 h3).2, (HDone.out M N' HM.out.1 h2 HM.out.2 h3).1⟩
              clear h1 h2 h3 HRI HRno HDone HSu HM
              go_wp2
              go_end0
              exact ⟨rfl, HQ.out⟩
            · have HQ : Hid (∃ M, Sw g w u2 (A ++ (M ++ B)) ∧ M.Perm (L ++ R) ∧ Srt K M) := ⟨M ++ (L2 ++ R2), by have := HSu.out; simpa using this, (HDone.out M (L2 ++ R2) HM.out.1 (List.Perm.refl _) HM.out.2 (HRno.out t3)).2, (HDone.out M (L2 ++ R2) HM.out.1 (List.Perm.refl _) HM.out.2 (HRno.out t3)).1⟩
              clear HRI HRno HDone HSu HM
              by_cases t3a : mid < en
              · have t3b : ¬ en < b := fun z => t3 ⟨t3a, z⟩
                clear t3
                go_wp2
                go_end0
                exact ⟨rfl, HQ.out⟩
              · clear t3
                go_wp2
                go_end0
                exact ⟨rfl, HQ.out⟩
          · obtain ⟨M, hM⟩ : ∃ M, L1 ++ R1 = M := ⟨_, rfl⟩
            have HSu : Hid (Sw g w u1 ((A ++ M) ++ (L2 ++ (R2 ++ B)))) := by show Sw _ _ _ _; rw [← hM]; have := HSt.out; simpa using this
            have HM : Hid (M.Perm (L1 ++ R1) ∧ Srt K M) := by rw [← hM]; exact ⟨List.Perm.refl _, HLno.out t2⟩
            clear hM HLE HLno HSt
            by_cases t2a : a < st
            · have t2b : ¬ st < mid := fun z => t2 ⟨t2a, z⟩
              clear t2
              by_cases t3 : mid < en ∧ en < b
              · have t3a := t3.1
                have t3b := t3.2
                go_wp2_with fail
                refine (HRI.out _ M HM.out.1 t3a t3b HSu.out).mono ?_
                rintro e v ⟨rfl, N', h1, h2, h3⟩
                have HQ : Hid (∃ M, Sw g w v (A ++ (M ++ B)) ∧ M.Perm (L ++ R) ∧ Srt K M) := ⟨M ++ N', by have := HSu.out.then h1; simpa using this, (HDone.out M N' HM.out.1 h2 HM.out.2 h3).2, (HDone.out M N' HM.out.1 h2 HM.out.2 h3).1⟩
                clear h1 h2 h3 HRI HRno HDone HSu HM
                go_wp2
                go_end0
                exact ⟨rfl, HQ.out⟩
              · have HQ : Hid (∃ M, Sw g w u1 (A ++ (M ++ B)) ∧ M.Perm (L ++ R) ∧ Srt K M) := ⟨M ++ (L2 ++ R2), by have := HSu.out; simpa using this, (HDone.out M (L2 ++ R2) HM.out.1 (List.Perm.refl _) HM.out.2 (HRno.out t3)).2, (HDone.out M (L2 ++ R2) HM.out.1 (List.Perm.refl _) HM.out.2 (HRno.out t3)).1⟩
                clear HRI HRno HDone HSu HM
                by_cases t3a : mid < en
                · have t3b : ¬ en < b := fun z => t3 ⟨t3a, z⟩
                  clear t3
                  go_wp2
                  go_end0
                  exact ⟨rfl, HQ.out⟩
                · clear t3
                  go_wp2
                  go_end0
                  exact ⟨rfl, HQ.out⟩
            · clear t2
              by_cases t3 : mid < en ∧ en < b
              · have t3a := t3.1
                have t3b := t3.2
                go_wp2_with fail
                refine (HRI.out _ M HM.out.1 t3a t3b HSu.out).mono ?_
                rintro e v ⟨rfl, N', h1, h2, h3⟩
                have HQ : Hid (∃ M, Sw g w v (A ++ (M ++ B)) ∧ M.Perm (L ++ R) ∧ Srt K M) := ⟨M ++ N', by have := HSu.out.then h1; simpa using this, (HDone.out M N' HM.out.1 h2 HM.out.2 h3).2, (HDone.out M N' HM.out.1 h2 HM.out.2 h3).1⟩
                clear h1 h2 h3 HRI HRno HDone HSu HM
                go_wp2
                go_end0
                exact ⟨rfl, HQ.out⟩
              · have HQ : Hid (∃ M, Sw g w u1 (A ++ (M ++ B)) ∧ M.Perm (L ++ R) ∧ Srt K M) := ⟨M ++ (L2 ++ R2), by have := HSu.out; simpa using this, (HDone.out M (L2 ++ R2) HM.out.1 (List.Perm.refl _) HM.out.2 (HRno.out t3)).2, (HDone.out M (L2 ++ R2) HM.out.1 (List.Perm.refl _) HM.out.2 (HRno.out t3)).1⟩
                clear HRI HRno HDone HSu HM
                by_cases t3a : mid < en
                · have t3b : ¬ en < b := fun z => t3 ⟨t3a, z⟩
                  clear t3
                  go_wp2
                  go_end0
                  exact ⟨rfl, HQ.out⟩
                · clear t3
                  go_wp2
                  go_end0
                  exact ⟨rfl, HQ.out⟩
        · have HSt : Hid (Sw g w wr (A ++ (L1 ++ (R1 ++ (L2 ++ (R2 ++ B)))))) := HTno.out t1
          clear HROT HTno HS
          by_cases t1a : st < m
          · have t1b : ¬ m < en := fun z => t1 ⟨t1a, z⟩
            clear t1
            by_cases t2 : a < st ∧ st < mid
            · have t2a := t2.1
              have t2b := t2.2
              clear t2
              go_wp2_with fail
              refine (HLE.out _ t2a t2b HSt.out).mono ?_
              rintro e u2 ⟨rfl, M, h1, h2, h3⟩
              have HSu : Hid (Sw g w u2 ((A ++ M) ++ (L2 ++ (R2 ++ B)))) := by have := HSt.out.then h1; show Sw _ _ _ _; simpa using this
              have HM : Hid (M.Perm (L1 ++ R1) ∧ Srt K M) := ⟨h2, h3⟩
              clear h1 h2 h3 HLE HLno HSt
              by_cases t3 : mid < en ∧ en < b
              · have t3a := t3.1
                have t3b := t3.2
                go_wp2_with fail
                refine (HRI.out _ M HM.out.1 t3a t3b HSu.out).mono ?_
                rintro e v ⟨rfl, N', h1, h2, h3⟩
                have HQ : Hid (∃ M, Sw g w v (A ++ (M ++ B)) ∧ M.Perm (L ++ R) ∧ Srt K M) := ⟨M ++ N', by have := HSu.out.then h1; simpa using this, (HDone.out M N' HM.out.1 h2 HM.out.2 h3).2, (HDone.out M N' HM.out.1 h2 HM.out.2 h3).1⟩
                clear h1 h2 h3 HRI HRno HDone HSu HM
                go_wp2
                go_end0
                exact ⟨rfl, HQ.out⟩
              · have HQ : Hid (∃ M, Sw g w u2 (A ++ (M ++ B)) ∧ M.Perm (L ++ R) ∧ Srt K M) := ⟨M ++ (L2 ++ R2), by have := HSu.out; simpa using this, (HDone.out M (L2 ++ R2) HM.out.1 (List.Perm.refl _) HM.out.2 (HRno.out t3)).2, (HDone.out M (L2 ++ R2) HM.out.1 (List.Perm.refl _) HM.out.2 (HRno.out t3)).1⟩
                clear HRI HRno HDone HSu HM
                by_cases t3a : mid < en
                · have t3b : ¬ en < b := fun z => t3 ⟨t3a, z⟩
                  clear t3
                  go_wp2
                  go_end0
                  exact ⟨rfl, HQ.out⟩
                · clear t3
                  go_wp2
                  go_end0
                  exact ⟨rfl, HQ.out⟩
            · obtain ⟨M, hM⟩ : ∃ M, L1 ++ R1 = M := ⟨_, rfl⟩
              have HSu : Hid (Sw g w wr ((A ++ M) ++ (L2 ++ (R2 ++ B)))) := by show Sw _ _ _ _; rw [← hM]; have := HSt.out; simpa using this
              have HM : Hid (M.Perm (L1 ++ R1) ∧ Srt K M) := by rw [← hM]; exact ⟨List.Perm.refl _, HLno.out t2⟩
              clear hM HLE HLno HSt
              by_cases t2a : a < st
              · have t2b : ¬ st < mid := fun z => t2 ⟨t2a, z⟩
                clear t2
                by_cases t3 : mid < en ∧ en < b
                · have t3a := t3.1
                  have t3b := t3.2
                  go_wp2_with fail
                  refine (HRI.out _ M HM.out.1 t3a t3b HSu.out).mono ?_
                  rintro e v ⟨rfl, N', h1, h2, h3⟩
                  have HQ : Hid (∃ M, Sw g w v (A ++ (M ++ B)) ∧ M.Perm (L ++ R) ∧ Srt K M) := ⟨M ++ N', by have := HSu.out.then h1; simpa using this, (HDone.out M N' HM.out.1 h2 HM.out.2 h3).2, (HDone.out M N' HM.out.1 h2 HM.out.2 h3).1⟩
                  clear h1 h2 h3 HRI HRno HDone HSu HM
                  go_wp2
                  go_end0
                  exact ⟨rfl, HQ.out⟩
                · have HQ : Hid (∃ M, Sw g w wr (A ++ (M ++ B)) ∧ M.Perm (L ++ R) ∧ Srt K M) := ⟨M ++ (L2 ++ R2), by have := HSu.out; simpa using this, (HDone.out M (L2 ++ R2) HM.out.1 (List.Perm.refl _) HM.out.2 (HRno.out t3)).2, (HDone.out M (L2 ++ R2) HM.out.1 (List.Perm.refl _) HM.out.2 (HRno.out t3)).1⟩
                  clear HRI HRno HDone HSu HM
                  by_cases t3a : mid < en
                  · have t3b : ¬ en < b := fun z => t3 ⟨t3a, z⟩
                    clear t3
                    go_wp2
                    go_end0
                    exact ⟨rfl, HQ.out⟩
                  · clear t3
                    go_wp2
                    go_end0
                    exact ⟨rfl, HQ.out⟩
              · clear t2
                by_cases t3 : mid < en ∧ en < b
                · have t3a := t3.1
                  have t3b := t3.2
                  go_wp2_with fail
                  refine (HRI.out _ M HM.out.1 t3a t3b HSu.out).mono ?_
                  rintro e v ⟨rfl, N', h1, h2, h3⟩
                  have HQ : Hid (∃ M, Sw g w v (A ++ (M ++ B)) ∧ M.Perm (L ++ R) ∧ Srt K M) := ⟨M ++ N', by have := HSu.out.then h1; simpa using this, (HDone.out M N' HM.out.1 h2 HM.out.2 h3).2, (HDone.out M N' HM.out.1 h2 HM.out.2 h3).1⟩
                  clear h1 h2 h3 HRI HRno HDone HSu HM
                  go_wp2
                  go_end0
                  exact ⟨rfl, HQ.out⟩
                · have HQ : Hid (∃ M, Sw g w wr (A ++ (M ++ B)) ∧ M.Perm (L ++ R) ∧ Srt K M) := ⟨M ++ (L2 ++ R2), by have := HSu.out; simpa using this, (HDone.out M (L2 ++ R2) HM.out.1 (List.Perm.refl _) HM.out.2 (HRno.out t3)).2, (HDone.out M (L2 ++ R2) HM.out.1 (List.Perm.refl _) HM.out.2 (HRno.out t3)).1⟩
                  clear HRI HRno HDone HSu HM
                  by_cases t3a : mid < en
                  · have t3b : ¬ en < b := fun z => t3 ⟨t3a, z⟩
                    clear t3
                    go_wp2
                    go_end0
                    exact ⟨rfl, HQ.out⟩
                  · clear t3
                    go_wp2
                    go_end0
                    exact ⟨rfl, HQ.out⟩
          · clear t1
            by_cases t2 : a < st ∧ st < mid
            · have t2a := t2.1
              have t2b := t2.2
              clear t2
              go_wp2_with fail
              refine (HLE.out _ t2a t2b HSt.out).mono ?_
              rintro e u2 ⟨rfl, M, h1, h2, h3⟩
              have HSu : Hid (Sw g w u2 ((A ++ M) ++ (L2 ++ (R2 ++ B)))) := by have := HSt.out.then h1; show Sw _ _ _ _; simpa using this
              have HM : Hid (M.Perm (L1 ++ R1) ∧ Srt K M) := ⟨h2, h3⟩
              clear h1 h2 h3 HLE HLno HSt
              by_cases t3 : mid < en ∧ en < b
              · have t3a := t3.1
                have t3b := t3.2
                go_wp2_with fail
                refine (HRI.out _ M HM.out.1 t3a t3b HSu.out).mono ?_
                rintro e v ⟨rfl, N', h1, h2, h3⟩
                have HQ : Hid (∃ M, Sw g w v (A ++ (M ++ B)) ∧ M.Perm (L ++ R) ∧ Srt K M) := ⟨M ++ N', by have := HSu.out.then h1; simpa using this, (HDone.out M N' HM.out.1 h2 HM.out.2 h3).2, (HDone.out M N' HM.out.1 h2 HM.out.2 h3).1⟩
                clear h1 h2 h3 HRI HRno HDone HSu HM
                go_wp2
                go_end0
                exact ⟨rfl, HQ.out⟩
              · have HQ : Hid (∃ M, Sw g w u2 (A ++ (M ++ B)) ∧ M.Perm (L ++ R) ∧ Srt K M) := ⟨M ++ (L2 ++ R2), by have := HSu.out; simpa using this, (HDone.out M (L2 ++ R2) HM.out.1 (List.Perm.refl _) HM.out.2 (HRno.out t3)).2, (HDone.out M (L2 ++ R2) HM.out.1 (List.Perm.refl _) HM.out.2 (HRno.out t3)).1⟩
                clear HRI HRno HDone HSu HM
                by_cases t3a : mid < en
                · have t3b : ¬ en < b := fun z => t3 ⟨t3a, z⟩
                  clear t3
                  go_wp2
                  go_end0
                  exact ⟨rfl, HQ.out⟩
                · clear t3
                  go_wp2
                  go_end0
                  exact ⟨rfl, HQ.out⟩
            · obtain ⟨M, hM⟩ : ∃ M, L1 ++ R1 = M := ⟨_, rfl⟩
              have HSu : Hid (Sw g w wr ((A ++ M) ++ (L2 ++ (R2 ++ B)))) := by show Sw _ _ _ _; rw [← hM]; have := HSt.out; simpa using this
              have HM : Hid (M.Perm (L1 ++ R1) ∧ Srt K M) := by rw [← hM]; exact ⟨List.Perm.refl _, HLno.out t2⟩
              clear hM HLE HLno HSt
              by_cases t2a : a < st
              · have t2b : ¬ st < mid := fun z => t2 ⟨t2a, z⟩
                clear t2
                by_cases t3 : mid < en ∧ en < b
                · have t3a := t3.1
                  have t3b := t3.2
                  go_wp2_with fail
                  refine (HRI.out _ M HM.out.1 t3a t3b HSu.out).mono ?_
                  rintro e v ⟨rfl, N', h1, h2, h3⟩
                  have HQ : Hid (∃ M, Sw g w v (A ++ (M ++ B)) ∧ M.Perm (L ++ R) ∧ Srt K M) := ⟨M ++ N', by have := HSu.out.then h1; simpa using this, (HDone.out M N' HM.out.1 h2 HM.out.2 h3).2, (HDone.out M N' HM.out.1 h2 HM.out.2 h3).1⟩
                  clear h1 h2 h3 HRI HRno HDone HSu HM
                  go_wp2
                  go_end0
                  exact ⟨rfl, HQ.out⟩
                · have HQ : Hid (∃ M, Sw g w wr (A ++ (M ++ B)) ∧ M.Perm (L ++ R) ∧ Srt K M) := ⟨M ++ (L2 ++ R2), by have := HSu.out; simpa using this, (HDone.out M (L2 ++ R2) HM.out.1 (List.Perm.refl _) HM.out.2 (HRno.out t3)).2, (HDone.out M (L2 ++ R2) HM.out.1 (List.Perm.refl _) HM.out.2 (HRno.out t3)).1⟩
                  clear HRI HRno HDone HSu HM
                  by_cases t3a : mid < en
                  · have t3b : ¬ en < b := fun z => t3 ⟨t3a, z⟩
                    clear t3
                    go_wp2
                    go_end0
                    exact ⟨rfl, HQ.out⟩
                  · clear t3
                    go_wp2
                    go_end0
                    exact ⟨rfl, HQ.out⟩
              · clear t2
                by_cases t3 : mid < en ∧ en < b
                · have t3a := t3.1
                  have t3b := t3.2
                  go_wp2_with fail
                  refine (HRI.out _ M HM.out.1 t3a t3b HSu.out).mono ?_
                  rintro e v ⟨rfl, N', h1, h2, h3⟩
                  have HQ : Hid (∃ M, Sw g w v (A ++ (M ++ B)) ∧ M.Perm (L ++ R) ∧ Srt K M) := ⟨M ++ N', by have := HSu.out.then h1; simpa using this, (HDone.out M N' HM.out.1 h2 HM.out.2 h3).2, (HDone.out M N' HM.out.1 h2 HM.out.2 h3).1⟩
                  clear h1 h2 h3 HRI HRno HDone HSu HM
                  go_wp2
                  go_end0
                  exact ⟨rfl, HQ.out⟩
                · have HQ : Hid (∃ M, Sw g w wr (A ++ (M ++ B)) ∧ M.Perm (L ++ R) ∧ Srt K M) := ⟨M ++ (L2 ++ R2), by have := HSu.out; simpa using this, (HDone.out M (L2 ++ R2) HM.out.1 (List.Perm.refl _) HM.out.2 (HRno.out t3)).2, (HDone.out M (L2 ++ R2) HM.out.1 (List.Perm.refl _) HM.out.2 (HRno.out t3)).1⟩
                  clear HRI HRno HDone HSu HM
                  by_cases t3a : mid < en
                  · have t3b : ¬ en < b := fun z => t3 ⟨t3a, z⟩
                    clear t3
                    go_wp2
                    go_end0
                    exact ⟨rfl, HQ.out⟩
                  · clear t3
                    go_wp2
                    go_end0
                    exact ⟨rfl, HQ.out⟩
theorem sym_any (g X : Nat) (N : Int) (K : Int → Int) : ∀ s, SymC X g N K s
  | 0 => fun A L R B n a m b w hs hw ha hm hb h1 h2 hn hn2 hL hR hlow hr hC => by omega
  | s + 1 => fun A L R B n a m b w hs hw ha hm hb h1 h2 hn hn2 hL hR hlow hr hC => by
    by_cases q1 : L.length = 1
    · obtain ⟨x, rfl⟩ := List.length_eq_one_iff.1 q1
      exact sym_1 g X N K A R B x n a m b w hw ha (by simpa using hm) hb hn hn2 hR (fun y hy => hlow x (by simp) y hy) (hr x (by simp)) (fun y hy => hr y (by simp [hy])) hC
    by_cases q2 : R.length = 1
    · obtain ⟨y, rfl⟩ := List.length_eq_one_iff.1 q2
      refine (sym_2 g X N K A L B y n a m b w hw ha hm (by simpa using hb) (by omega) hn hn2 hL (fun x hx => hlow x hx y (by simp)) (hr y (by simp)) (fun x hx => hr x (by simp [hx])) hC).mono ?_
      rintro e u ⟨rfl, M, h1, h2, h3⟩
      exact ⟨rfl, M, h1, h2.trans perm_snoc, h3⟩
    exact sym_3 g X N K s (sym_any g X N K s) A L R B n a m b w hs hw ha hm hb (by omega) (by omega) hn hn2 hL hR hlow hr hC
end Go.Proofs.Ytcenaleladjakab.budget
