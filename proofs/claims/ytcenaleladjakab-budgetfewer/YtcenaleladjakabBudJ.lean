/- budget: what byPeriod, roomsOf and find answer. -/
import Derived.Test.YtcenaleladjakabBudI
namespace Go.Proofs.Ytcenaleladjakab.budget
open Go Go.RowKit
set_option linter.unusedVariables false
set_option linter.unusedSimpArgs false
set_option maxRecDepth 100000

theorem v_puti {ops : Array Oper} {rest : List Oper} {o : Oper} {a : Act} {w : World} {Q : Exit → Act → World → Prop} (hgd : Region.wanted o (yielded ops a.tmps) = true) {x y : Operand} (ho : o.op = .store 3 x y)
    {B j : Nat} {T : TypeId} {l : List Value} {v : Int} (hx : a.eval x = .pointer (some ⟨B, j, none⟩)) (hy : a.eval y = .int .i64 v) (hB : w.heap[B]? = some (bv T l)) (hle : j < l.length)
    (h : ∀ u, u.heap[B]? = some (bv T (l.set j (.int .i64 v))) → Chg B w u → wpList Try.prog ops Q rest (a.put o.dst undef) u) : wpList Try.prog ops Q (o :: rest) a w :=
  v_put hgd ho (.inl ⟨rfl, v, rfl⟩) hx hy hB hle h
theorem ints_zero : ∀ v ∈ [Value.int .i64 0], v = .int .i64 0 := by simp
theorem berths_zero : ∀ v ∈ [Value.int .i64 0, Value.int .i64 0], v = .int .i64 0 := by simp
def nums (n : Nat) : List Int := (List.range n).map Int.ofNat
def filn (n k : Nat) : List Int := nums k ++ List.replicate (n - k) 0
theorem filn_len {n k : Nat} (h : k ≤ n) : (filn n k).length = n := by simp [filn, nums]; omega
theorem filn_zero (n : Nat) : ivs (filn n 0) = List.replicate (n * 1) (.int .i64 0) := by simp [filn, nums, ivs]
theorem filn_all (n : Nat) : filn n n = nums n := by simp [filn]
theorem filn_next {n k : Nat} (h : k < n) : (ivs (filn n k)).set k (.int .i64 (k : Int)) = ivs (filn n (k + 1)) := by
  rw [ivs_set]
  congr 1
  unfold filn
  rw [List.set_append_right _ _ (by simp [nums]), show n - k = (n - (k + 1)) + 1 by omega, List.replicate_succ, show k - (nums k).length = 0 by simp [nums], List.set_cons_zero]
  simp [nums, List.range_succ]
theorem nums_asc (n : Nat) : (nums n).Pairwise (· < ·) := by
  unfold nums
  rw [List.pairwise_map]
  exact List.pairwise_lt_range.imp (fun {a b} h => Int.ofNat_lt.2 h)
theorem nums_mem {n : Nat} {x : Int} (h : x ∈ nums n) : 0 ≤ x ∧ x < n := by
  unfold nums at h
  obtain ⟨k, hk, rfl⟩ := List.mem_map.1 h
  have := List.mem_range.1 hk
  simp
  omega
theorem nums_len (n : Nat) : (nums n).length = n := by simp [nums]
theorem okp_le {p : Nat} (h : okp p = true) : 1 ≤ p ∧ p ≤ 32 := by rcases okp_iff.1 h with rfl | rfl | rfl | rfl | rfl | rfl <;> omega
set_option maxHeartbeats 4000000 in
theorem byPeriod_any (v : Value) (P : List Int) (w : World) (hv : Ris w v P) (hP : okP P) (hl : P.length ≤ 64) : Calls Try.prog 14 #[v] w fun e u => ∃ g, e = .returned (.slice (some ⟨g, 0, none⟩) P.length P.length) ∧ u.heap[g]? = some (bv 3 (ivs ((ord P).map Int.ofNat))) ∧ w.heap.size ≤ g ∧ Below w.heap.size w u := by
  obtain ⟨a, c, rfl, hlc, hcm⟩ := hv.form
  have HG : Hid (∀ X g u, Mm w u [(g, 3, ivs (nums P.length)), (X, 22, [.slice a P.length c])] → Calls Try.prog 20 #[.slice (some ⟨g, 0, none⟩) P.length P.length, cmpF X] u fun e u' => e = .returned (.tuple #[]) ∧ u'.heap[g]? = some (bv 3 (ivs ((ord P).map Int.ofNat))) ∧ w.heap.size ≤ g ∧ Below w.heap.size w u') := fun X g u hM => by
    have hg := hM.own (g, 3, ivs (nums P.length)) (by simp)
    have hXg : X ≠ g := fun e => by
      have := hM.ap
      subst e
      simp at this
    have hc := cmp_any g X a c P u hM.at1 hXg (hv.below hM.below) (fun h ad e => by
      obtain ⟨a', c', hv', h1, h2, h4⟩ := hv
      obtain ⟨g', off, ha, hg', _⟩ := h4 h
      have : a = a' := by injection hv'
      rw [e, ha] at this
      injection this with this
      rw [this]
      show g' ≠ g
      have : w.heap.size ≤ g := hg
      omega) (fun p hp => by have h1 := hP p hp; have := okp_le h1.2; omega)
    refine (sort_any g X _ (kP P) (nums P.length) P.length u hM.at0 (nums_len _) (by omega) (nums_asc _) (fun x hx => nums_mem hx) hc).mono ?_
    rintro e u' ⟨rfl, M, h1, h2, h3⟩
    have hM' := ord_is hP h2 h3
    subst hM'
    exact ⟨rfl, h1.lies, hg, h1.chg.below _ _ hg hM.below⟩
  obtain ⟨O, hO⟩ : ∃ O, ivs ((ord P).map Int.ofNat) = O := ⟨_, rfl⟩
  rw [hO] at HG ⊢
  obtain ⟨n, hn⟩ : ∃ n, P.length = n := ⟨_, rfl⟩
  rw [hn] at HG hl hlc ⊢
  unfold maxLen at hcm
  have HN : Hid (n ≤ 1000) := by show n ≤ 1000; omega
  have hM := Mm.nil w
  have HM0 : Hid (Mm w w []) := hM
  clear hv hP hn hO hM
  go_enter Try.func14, Try.ntmps14
  have hM := HM0.out
  repeat' (first | (go_big_may; first | (refine v_boxs rfl rfl rfl ?_; intro u X hN; replace hM := hM.new hN; clear hN) | (refine v_get rfl rfl (.inr (.inr rfl)) rfl hM.at0 rfl ?_) | (refine v_make rfl el_ints ints_zero rfl rfl rfl HN.out ?_; intro u g hN; replace hM := hM.new hN; clear hN)) | go_values | go_skip | go_guarded | go_step | go_upon | (simp only [Int.not_lt, Int.not_le] at *; go_simp))
  have HM : Hid (Mm w u [(g, 3, ivs (filn n 0)), (X, 22, [.slice a n c])]) := by rw [filn_zero]; exact hM
  clear hM HM0
  go_loopw [4, 10] (fun _ i wr => ∃ k : Nat, k ≤ n ∧ i = .int .i64 (k : Int) ∧ Hid (Mm w wr [(g, 3, ivs (filn n k)), (X, 22, [.slice a n c])])) (fun _ i _ => n - (intOf i).toNat)
  case atStart => exact ⟨0, Nat.zero_le _, rfl, HM.out⟩
  case round =>
    clear HM HN
    obtain ⟨k, hk, rfl, HA⟩ := hrel
    by_cases hlt : ¬ k < n
    · have HS : Hid (Calls Try.prog 20 #[.slice (some ⟨g, 0, none⟩) n n, cmpF X] wr fun e u' => e = .returned (.tuple #[]) ∧ u'.heap[g]? = some (bv 3 O) ∧ w.heap.size ≤ g ∧ Below w.heap.size w u') := HG.out X g wr (by have := HA.out; rw [show k = n by omega, filn_all] at this; exact this)
      clear HA HG
      go_wp2_with fail
      refine (HS.out).mono ?_
      rintro e u' ⟨rfl, h1⟩
      have HQ : Hid (u'.heap[g]? = some (bv 3 O) ∧ w.heap.size ≤ g ∧ Below w.heap.size w u') := h1
      clear h1 HS
      go_wp2
      go_ret
      exact ⟨g, rfl, HQ.out⟩
    have hlt : k < n := by omega
    have HL : Hid (k < (ivs (filn n k)).length) := by show k < _; rw [ivs_length, filn_len hk]; exact hlt
    have HE : Hid ((ivs (filn n k)).set k (.int .i64 (k : Int)) = ivs (filn n (k + 1))) := filn_next hlt
    have hM := HA.out
    clear HA HG
    repeat' (first | (go_big_may; first | (refine v_puti rfl rfl rfl rfl hM.at0 HL.out ?_; intro u hv hc; replace hM := hM.put0 hc hv; clear hv hc; rw [HE.out] at hM)) | go_values | go_skip | go_guarded | go_step | go_upon | (simp only [Int.not_lt, Int.not_le] at *; go_simp))
    go_roundw
    case rel => exact ⟨k + 1, by omega, by go_num, hM⟩
    case measure => simp [intOf]; omega
theorem or32 {a b : Nat} (ha : a < 4294967296) (hb : b < 4294967296) : bits .or .u32 (a : Int) (b : Int) = ((a ||| b : Nat) : Int) := by
  have t1 : (BitVec.ofInt 32 (a : Int)).toNat = a := by rw [BitVec.toNat_ofInt]; omega
  have t2 : (BitVec.ofInt 32 (b : Int)).toNat = b := by rw [BitVec.toNat_ofInt]; omega
  have h := or_small ha hb
  show IntKind.u32.wrap (((BitVec.ofInt 32 (a : Int)) ||| (BitVec.ofInt 32 (b : Int))).toNat : Nat) = _
  rw [BitVec.toNat_or, t1, t2, IntKind.wrap_u32]
  omega
theorem and32 {a b : Nat} (ha : a < 4294967296) (hb : b < 4294967296) : bits .and .u32 (a : Int) (b : Int) = ((a &&& b : Nat) : Int) := by
  have t1 : (BitVec.ofInt 32 (a : Int)).toNat = a := by rw [BitVec.toNat_ofInt]; omega
  have t2 : (BitVec.ofInt 32 (b : Int)).toNat = b := by rw [BitVec.toNat_ofInt]; omega
  have h : a &&& b < 4294967296 := Nat.lt_of_le_of_lt Nat.and_le_left ha
  show IntKind.u32.wrap (((BitVec.ofInt 32 (a : Int)) &&& (BitVec.ofInt 32 (b : Int))).toNat : Nat) = _
  rw [BitVec.toNat_and, t1, t2, IntKind.wrap_u32]
  omega
theorem pow_small {f : Nat} (h : f < 32) : 2 ^ f < 4294967296 := by
  have : 2 ^ f < 2 ^ 32 := Nat.pow_lt_pow_right (by omega) h
  omega
set_option maxHeartbeats 4000000 in
theorem roomsOf_any (p f : Nat) (w : World) (hp : okp p = true) (hf : f < p) : Calls Try.prog 16 #[.int .i64 (p : Int), .int .i64 (f : Int)] w fun e w' => e = .returned (.int .u32 (mk p f : Int)) ∧ w = w' := by
  have hpl := okp_le hp
  obtain ⟨hp1, hp2⟩ := hpl
  have H0 : Hid (0 ||| mkF 32 p f = mk p f) := by show _ = _; simp [mk]
  obtain ⟨m, hm⟩ : ∃ m, mk p f = m := ⟨_, rfl⟩
  rw [hm] at H0 ⊢
  have hf32 : f < 32 := by omega
  clear hp hm
  go_enter Try.func16, Try.ntmps16
  go_wp2
  go_loopw [5, 6] (fun ov iv wr => ∃ o i k : Nat, o < 4294967296 ∧ i < 32 + p ∧ 32 ≤ i + k ∧ ov = .int .u32 (o : Int) ∧ iv = .int .i64 (i : Int) ∧ w = wr ∧ Hid (o ||| mkF k p i = m)) (fun _ iv _ => 32 - (intOf iv).toNat)
  case atStart => exact ⟨0, f, 32, by omega, by omega, by omega, rfl, rfl, rfl, H0.out⟩
  case round =>
    clear H0
    obtain ⟨o, i, k, ho, hi, hik, rfl, rfl, rfl, HA⟩ := hrel
    by_cases hlt : i < 32
    · have hpw := pow_small hlt
      have hor := or32 ho hpw
      obtain ⟨k, rfl⟩ : ∃ k', k = k' + 1 := ⟨k - 1, by omega⟩
      have HB : Hid (o ||| 2 ^ i ||| mkF k p (i + p) = m) := by
        have := HA.out
        rw [mkF, if_pos hlt, ← Nat.or_assoc] at this
        exact this
      have hsm := or_small ho hpw
      clear HA
      have HE1 : Hid ((2 : Int) ^ i = ((2 ^ i : Nat) : Int)) := by show _ = _; simp
      have e2 : (2 : Int) ^ i % 4294967296 = (2 : Int) ^ i := by
        rw [HE1.out]
        clear hor hsm HB HE1
        generalize 2 ^ i = q at hpw ⊢
        omega
      go_wp2
      go_roundw
      case rel => exact ⟨o ||| 2 ^ i, i + p, k, hsm, by omega, by omega, by rw [HE1.out, hor], by go_num, trivial, HB.out⟩
      case measure => simp [intOf]; omega
    · have HQ : Hid (o = m) := by
        have := HA.out
        rw [mkF_end (by omega), Nat.or_zero] at this
        exact this
      clear HA
      go_wp2
      go_ret
      rw [HQ.out]
      exact ⟨rfl, rfl⟩
/-- masks as cells -/
def uvs (U : List Nat) : List Value := U.map fun (n : Nat) => Value.int .u32 (n : Int)
theorem uvs_length (U : List Nat) : (uvs U).length = U.length := List.length_map ..
theorem uvs_at {U : List Nat} {j n : Nat} (h : U[j]? = some n) : (uvs U)[j]? = some (.int .u32 (n : Int)) := by simp [uvs, h]
theorem uvs_set (U : List Nat) (j n : Nat) : (uvs U).set j (.int .u32 (n : Int)) = uvs (U.set j n) := by simp [uvs, List.map_set]
theorem zer_berth : Zer 33 (ivs [0, 0]) := ⟨by kernel_rfl⟩
theorem bld_berth (x y : Int) (w : World) : (Instr.build 33 #[(0, .int .i64 x), (1, .int .i64 y)]).run Try.prog w = .ok (agv (ivs [x, y])) w := by kernel_rfl
theorem bld_none (w : World) : (Instr.build 33 #[]).run Try.prog w = .ok (agv (ivs [0, 0])) w := by kernel_rfl
theorem two_vs (x y : Int) : Vs (ivs [x, y]) 2 := ivs_vs rfl
/-- what find answers -/
def fnA (r : Option Nat) (p : Nat) : List Int := match r with
  | none => [0, 0]
  | some k => [((k / p : Nat) : Int), ((k % p : Nat) : Int)]
theorem at_k {p l f : Nat} (hf : f < p) : (l * p + f) / p = l ∧ (l * p + f) % p = f := by
  have hp : 0 < p := by omega
  exact ⟨by rw [Nat.mul_comm, Nat.mul_add_div hp, Nat.div_eq_of_lt hf, Nat.add_zero], by rw [Nat.mul_comm, Nat.mul_add_mod, Nat.mod_eq_of_lt hf]⟩
set_option maxHeartbeats 4000000 in
theorem find_any (g : Nat) (T : TypeId) (U : List Nat) (S : List En) (p m : Nat) (w : World) (hw : w.heap[g]? = some (bv T (uvs U))) (hU : U.length = 8) (hm : m ≤ 8) (hS : ∀ x ∈ S, Ve m x) (hE : ∀ l, l < m → U.getD l 0 = msk S l) (hp : okp p = true) :
    Calls Try.prog 15 #[.slice (some ⟨g, 0, none⟩) m 8, .int .i64 (p : Int)] w fun e u => e = .returned (.tuple #[agv (ivs (fnA (fit S p m) p)), .bool (fit S p m).isSome]) ∧ Below w.heap.size w u := by
  have hpl := okp_le hp
  obtain ⟨hp1, hp2⟩ := hpl
  have HC : Hid (∀ u l, l < m → Below w.heap.size w u → u.cell? ⟨g, l, none⟩ = some (.int .u32 (msk S l : Int))) := fun u l hl hb => bv_cell (keep hw hb) (uvs_at (by
    rw [← hE l hl, List.getD_eq_getElem?_getD, List.getElem?_eq_getElem (by omega)]
    rfl))
  have HR : Hid (∀ f u, f < p → Calls Try.prog 16 #[.int .i64 (p : Int), .int .i64 (f : Int)] u fun e w' => e = .returned (.int .u32 (mk p f : Int)) ∧ u = w') := fun f u hf => roomsOf_any p f u hp hf
  have HB : Hid (∀ l f, f < p → bits .and .u32 (msk S l : Int) (mk p f : Int) = ((msk S l &&& mk p f : Nat) : Int)) := fun l f hf => and32 (msk_small hS l) (mk_small hp hf)
  have HF : Hid (∀ l f, f < p → ((msk S l &&& mk p f = 0) ↔ free S p (l * p + f) = true)) := fun l f hf => by
    rw [msk_free hS hp hf, free_iff, (at_k (l := l) hf).1, (at_k (l := l) hf).2]
  have HS : Hid (∀ l f, l < m → f < p → free S p (l * p + f) = true → (∀ j, j < l * p + f → free S p j = false) → fit S p m = some (l * p + f)) := fun l f hl hf h1 h2 => fit_some (by
    have : (l + 1) * p ≤ m * p := Nat.mul_le_mul_right _ hl
    rw [Nat.succ_mul] at this
    omega) h1 h2
  have HN : Hid ((∀ j, j < m * p → free S p j = false) → fit S p m = none) := fit_none
  obtain ⟨fr, hfr⟩ : ∃ fr, free S p = fr := ⟨_, rfl⟩
  obtain ⟨ft, hft⟩ : ∃ ft, fit S p m = ft := ⟨_, rfl⟩
  obtain ⟨ms, hms⟩ : ∃ ms, msk S = ms := ⟨_, rfl⟩
  rw [hfr] at HF HS HN
  rw [hft] at HS HN ⊢
  rw [hms] at HC HB HF
  have hM := Mm.nil w
  clear hw hU hS hE hp hfr hft hms
  go_enter Try.func15, Try.ntmps15
  repeat' (first | (go_big_may; first | (refine v_alloc rfl zer_berth rfl ?_; intro u zb hN; replace hM := hM.new hN; clear hN)) | go_values | go_skip | go_guarded | go_step | go_upon | (simp only [Int.not_lt, Int.not_le] at *; go_simp))
  have HM : Hid (Mm w u [(zb, 33, ivs [0, 0])] ∧ ∀ j, j < 0 * p → fr j = false) := ⟨hM, fun j h => by omega⟩
  clear hM
  go_loopw [6, 7, 8, 11] (fun _ _ _ i wr => ∃ l : Nat, l ≤ m ∧ i = .int .i64 (l : Int) ∧ Hid (Mm w wr [(zb, 33, ivs [0, 0])] ∧ ∀ j, j < l * p → fr j = false)) (fun _ _ _ i _ => m - (intOf i).toNat)
  case atStart => exact ⟨0, Nat.zero_le _, rfl, HM.out⟩
  case round =>
    clear HM
    obtain ⟨l, hl, rfl, HA⟩ := hrel
    by_cases hlt : ¬ l < m
    · have HQ : Hid (ft = none) := HN.out (by have := HA.out.2; rw [show l = m by omega] at this; exact this)
      have hM := HA.out.1
      have HV : Hid (Vs (ivs [0, 0]) 2) := two_vs 0 0
      have HV2 : Hid ((ivs [0, 0]).length = 2) := rfl
      clear HA HN HS HF HB HR HC
      repeat' (first | (go_big_may; first | (refine v_build rfl rfl bld_none ?hbv ?_; (case hbv => simp [Act.eval, Act.put])) | (refine v_fill rfl rfl row_berth rfl rfl hM.at0 HV.out HV2.out ?_; intro u hv hc; replace hM := hM.put0 hc hv; clear hv hc)) | go_values | go_skip | go_guarded | go_step | go_upon | (simp only [Int.not_lt, Int.not_le] at *; go_simp))
      rw [HQ.out]
      exact bodyPost_ret (ret_2 Try.results15 rfl (ld_var row_berth hM.at0 rfl) rfl) rfl ⟨rfl, hM.below⟩
    have hlt : l < m := by omega
    have hcell := HC.out wr l hlt HA.out.1.below
    have HA2 : Hid (Mm w wr [(zb, 33, ivs [0, 0])] ∧ ∀ j, j < l * p + 0 → fr j = false) := HA.out
    clear HA HC HN
    go_wp2
    go_loopw [8, 17] (fun _ i wr => ∃ f : Nat, f ≤ p ∧ i = .int .i64 (f : Int) ∧ Hid (Mm w wr [(zb, 33, ivs [0, 0])] ∧ ∀ j, j < l * p + f → fr j = false)) (fun _ i _ => p - (intOf i).toNat)
    case atStart => exact ⟨0, Nat.zero_le _, rfl, HA2.out⟩
    case round =>
      clear HA2 hcell
      obtain ⟨f, hf, rfl, HA⟩ := hrel
      by_cases hfp : ¬ f < p
      · have HQ : Hid (Mm w wr [(zb, 33, ivs [0, 0])] ∧ ∀ j, j < (l + 1) * p → fr j = false) := ⟨HA.out.1, fun j hj => HA.out.2 j (by rw [Nat.succ_mul] at hj; omega)⟩
        clear HA HS HF HB HR
        go_wp2
        go_roundw
        case rel => exact ⟨l + 1, by omega, by go_num, HQ.out⟩
        case measure => simp [intOf]; omega
      have hfp : f < p := by omega
      have HRc : Hid (∀ u, Calls Try.prog 16 #[.int .i64 (p : Int), .int .i64 (f : Int)] u fun e w' => e = .returned (.int .u32 (mk p f : Int)) ∧ u = w') := fun u => HR.out f u hfp
      have eb := HB.out l f hfp
      obtain ⟨z, hz⟩ : ∃ z, ms l &&& mk p f = z := ⟨_, rfl⟩
      have hFz : z = 0 ↔ fr (l * p + f) = true := by rw [← hz]; exact HF.out l f hfp
      rw [hz] at eb
      obtain ⟨ml, hml⟩ : ∃ ml, ms l = ml := ⟨_, rfl⟩
      obtain ⟨mf, hmf⟩ : ∃ mf, mk p f = mf := ⟨_, rfl⟩
      rw [hmf] at HRc
      rw [hml, hmf] at eb
      rw [hml]
      clear HR HB HF hz hml hmf
      by_cases hz0 : z = 0
      · have HQ : Hid (ft = some (l * p + f)) := HS.out l f hlt hfp (hFz.1 hz0) HA.out.2
        have ez : ((z : Int) == 0) = true := by simp [hz0]
        have hM := HA.out.1
        have HV : Hid (Vs (ivs [(l : Int), (f : Int)]) 2) := two_vs _ _
        have HV2 : Hid ((ivs [0, 0]).length = 2) := rfl
        clear HA HS hFz hz0
        go_wp2_with fail
        refine (HRc.out _).mono ?_
        rintro e u ⟨rfl, rfl⟩
        repeat' (first | (go_big_may; first | (refine v_build rfl rfl (bld_berth _ _) ?hbv ?_; (case hbv => simp [Act.eval, Act.put])) | (refine v_fill rfl rfl row_berth rfl rfl hM.at0 HV.out HV2.out ?_; intro u hv hc; replace hM := hM.put0 hc hv; clear hv hc)) | go_values | go_skip | go_guarded | go_step | go_upon | (simp only [Int.not_lt, Int.not_le] at *; go_simp))
        rw [HQ.out]
        have e3 : fnA (some (l * p + f)) p = [(l : Int), (f : Int)] := by unfold fnA; simp only; rw [(at_k (l := l) hfp).1, (at_k (l := l) hfp).2]
        rw [e3]
        exact bodyPost_ret (ret_2 Try.results15 rfl (ld_var row_berth hM.at0 rfl) rfl) rfl ⟨rfl, hM.below⟩
      · have HQ : Hid (Mm w wr [(zb, 33, ivs [0, 0])] ∧ ∀ j, j < l * p + (f + 1) → fr j = false) := ⟨HA.out.1, fun j hj => by
          by_cases e : j = l * p + f
          · rw [e]
            cases q : fr (l * p + f) with
            | false => rfl
            | true => exact absurd (hFz.2 q) hz0
          · exact HA.out.2 j (by omega)⟩
        have ez : ((z : Int) == 0) = false := by simp [hz0]
        clear HA HS hFz hz0
        go_wp2_with fail
        refine (HRc.out _).mono ?_
        rintro e u ⟨rfl, rfl⟩
        go_wp2
        go_roundw
        case rel => exact ⟨f + 1, by omega, by go_num, HQ.out⟩
        case measure => simp [intOf]; omega
end Go.Proofs.Ytcenaleladjakab.budget
