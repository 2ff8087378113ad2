/- plugref: what is kept of an answer. -/
import Derived.Test.YtonheibhbilhhaaGreatZMc
import Derived.Test.YtonheibhbilhhaaGreatZCd
import Derived.Test.YtonheibhbilhhaaGreatZCc
import Derived.Test.YtonheibhbilhhaaGreatZBa
import Derived.Test.YtonheibhbilhhaaGreatZBh
import Derived.Test.YtonheibhbilhhaaGreatZMb
namespace Go.Proofs.YtonheibhbilhhaaGreat.greet
open Go Go.RowKit Go.PlainAid Go.Proofs.YtonheibhbilhhaaGreat.lane Go.Proofs.YtonheibhbilhhaaGreat.desc
open Go.Proofs.YtonheibhbilhhaaGreat.setup (inS inS_iff hasPrefix_any)
set_option linter.unusedVariables false
set_option linter.unusedSimpArgs false
set_option maxRecDepth 100000
set_option maxHeartbeats 1000000 in
theorem indexB_any (B : Nat) (us : List Int) (x : Int) (w : World) (h : ∀ j y, us[j]? = some y → w.cell? ⟨B, j, none⟩ = some (.int .u8 y)) (hl : us.length ≤ 1000) :
  Calls Tryz.prog 108 #[.slice (some ⟨B, 0, none⟩) us.length us.length, .int .u8 x] w fun e w' => ∃ r : Int, e = .returned (.int .i64 r) ∧ (0 ≤ r ↔ x ∈ us) ∧ w = w' := by
 have HC : Hid (∀ j y, us[j]? = some y → w.cell? ⟨B, j, none⟩ = some (.int .u8 y)) := h
 obtain ⟨n, hn⟩ : ∃ n, us.length = n := ⟨_, rfl⟩
 have HN : Hid (us.length = n) := hn
 rw [hn] at hl ⊢
 clear h hn
 go_enter Tryz.func108, Tryz.ntmps108
 go_wp2
 go_loop [8] (fun i => ∃ k : Nat, k ≤ n ∧ i = .int .i64 (k : Int) ∧ Hid ((us.drop k).contains x = us.contains x)) (fun i => n - (intOf i).toNat)
 case atStart => exact ⟨0, Nat.zero_le _, rfl, rfl⟩
 case round =>
  obtain ⟨k, hk, rfl, HR⟩ := hrel
  by_cases hlt : k < n
  ·have hk1 : k < us.length := by have := HN.out; omega
   have c1 := HC.out k us[k] (List.getElem?_eq_getElem hk1)
   have hR := HR.out
   rw [List.drop_eq_getElem_cons hk1, List.contains_cons] at hR
   generalize us[k] = y at c1 hR
   clear HC HN HR
   by_cases hxy : x = y
   ·have e1 : (x == y) = true := by simpa using hxy
    have HH : Hid (decide (0 ≤ (k : Int)) = us.contains x) := by
     show _ = _
     rw [← hR, e1, Bool.true_or, decide_eq_true_eq]; omega
    clear hR hxy
    go_wp2
    go_ret
    exact ⟨_, rfl, by have := HH.out; simpa using this, rfl⟩
   ·have e1 : (x == y) = false := by simpa using hxy
    have HH : Hid ((us.drop (k + 1)).contains x = us.contains x) := by
     show _ = _
     rw [← hR, e1, Bool.false_or]
    clear hR hxy
    go_wp2
    go_round
    case rel => exact ⟨k + 1, by omega, by go_num, HH.out⟩
    case measure => simp [intOf]; omega
  ·have hR := HR.out
   rw [List.drop_eq_nil_of_le (by have := HN.out; omega)] at hR
   have HH : Hid (decide ((0 : Int) ≤ -1) = us.contains x) := hR
   clear HC HN HR hR
   go_wp2
   go_ret
   exact ⟨_, rfl, by have := HH.out; simpa using this, rfl⟩
theorem containsB_any (B : Nat) (us : List Int) (x : Int) (w : World) (h : ∀ j y, us[j]? = some y → w.cell? ⟨B, j, none⟩ = some (.int .u8 y)) (hl : us.length ≤ 1000) :
  Calls Tryz.prog 79 #[.slice (some ⟨B, 0, none⟩) us.length us.length, .int .u8 x] w fun e w' => e = .returned (.bool (us.contains x)) ∧ w = w' := by
 have HI : Hid (Calls Tryz.prog 108 #[.slice (some ⟨B, 0, none⟩) us.length us.length, .int .u8 x] w fun e w' => ∃ r : Int, e = .returned (.int .i64 r) ∧ (0 ≤ r ↔ x ∈ us) ∧ w = w') := indexB_any B us x w h hl
 clear h
 go_enter Tryz.func79, Tryz.ntmps79
 go_wp2_with fail
 refine HI.out.mono ?_
 rintro e wa ⟨r, rfl, hr, rfl⟩
 have HR : Hid (decide (0 ≤ r) = us.contains x) := by show _ = _; rw [Bool.eq_iff_iff]; simpa using hr
 clear hr
 go_wp2
 go_ret
 exact ⟨ret_bool HR.out, rfl⟩
theorem bs_four (w : World) : (Instr.buildSlice 99 4 #[(0, .int .u8 8), (1, .int .u8 16), (2, .int .u8 32), (3, .int .u8 64)]).run Tryz.prog w = .ok (.slice (some ⟨w.heap.size, 0, none⟩) 4 4) (w.alloc (bx 5 [.int .u8 8, .int .u8 16, .int .u8 32, .int .u8 64])) := by kernel_rfl
theorem four_m0 (x : Int) : ([8, 16, 32, 64] : List Int).contains x = m0B x := by
 simp only [m0B, List.contains_cons, List.contains_nil, Bool.or_false]
theorem pre_two (s : ByteArray) (a b : Int) (h : 2 ≤ s.size) : decide ((nums s).take 2 = [a, b]) = (bt s 0 == a && bt s 1 == b) := by
 have hl : 2 ≤ (nums s).length := by rw [nums_length]; exact h
 rw [bt_nums s 0 (by omega), bt_nums s 1 (by omega)]
 match nums s, hl with
 | x :: y :: r, _ =>
  rw [Bool.eq_iff_iff]
  simp
theorem rr_cases {s : ByteArray} {w w' : World} {e : Ending} (h : RrP s w e w') :
  (∃ z, z ≠ 0 ∧ rcO s = none ∧ e = .returned (.tuple #[cfV noC nilS, .int .i64 z]) ∧ Below w.heap.size w w') ∨
  (∃ c vf L, rcO s = some c ∧ e = .returned (.tuple #[cfV c vf, .int .i64 0]) ∧ Oc w w' vf L ∧ L.map Prod.fst = c.fs ∧ Below w.heap.size w w') := by
 rcases h with ⟨a1, a2, a3⟩ | ⟨a1, a2, a3, a4⟩ | ⟨c, vf, L, a1, a2, a3, a4, a6, a5⟩
 ·exact .inl ⟨_, a1, rcO_none (.inl a1), a2, a3⟩
 ·exact .inl ⟨4, by decide, rcO_none (.inr a2), a3, a4⟩
 ·exact .inr ⟨c, vf, L, rcO_some a1 a2, a3, ⟨a6.1, a6.2.1, a6.2.2, fun q hq => ⟨(a4.fs.all q hq).bb, (a4.fs.all q hq).sz⟩⟩, a4.eq, a5⟩
def KrP (g : Gr) (u : Value) (s : ByteArray) (w : World) (e : Ending) (w' : World) : Prop :=
 ∃ k u', e = .returned (.tuple #[grV k u', .bool (keepV g s).isSome]) ∧ u'.oneCell' = true ∧ (∀ k', keepV g s = some k' → k = k' ∧ ((u' = u ∧ k.c = g.c) ∨ ∃ M, Oc w w' u' M ∧ M.map Prod.fst = k.c.fs)) ∧ Below w.heap.size w w'
theorem Rc.chg {w u v : World} {B : Nat} {uv : Value} {c : Cf} {L : FL} (h : Rc u uv c L) (hB : u.heap.size ≤ B) (hb : Below u.heap.size u v) : Rc v uv c L := h.below hb
theorem kr_no {g : Gr} {s : ByteArray} (h : (keepV g s).isSome = false) {P : Gr → Prop} : ∀ k', keepV g s = some k' → P k' := fun k' hk => by rw [hk] at h; cases h
set_option maxHeartbeats 8000000 in
theorem kept2_any (g : Gr) (uv : Value) (s : ByteArray) (w : World) (h7 : g.st = 2) (hu : uv.oneCell' = true) (hm : s.size ≤ maxLen) : Calls Tryz.prog 44 #[grV g uv, .string s] w (KrP g uv s w) := by
 have HZ : Hid (s.size ≤ maxLen) := hm
 have hM := Mm.nil w
 have HES : Hid (s.toList.isEmpty = decide (s.size = 0)) := by
  have e : (s.toList == (⟨#[]⟩ : ByteArray).toList) = decide (s.size = 0) := by
   rw [toList_beq]
   by_cases q : s.size = 0
   ·rw [decide_eq_true q, decide_eq_true]
    have : s.data = #[] := Array.eq_empty_of_size_eq_zero q
    cases s; simp only at this; rw [this]
   ·rw [decide_eq_false q, decide_eq_false]
    intro z; rw [z] at q; exact q rfl
  show _ = _
  rw [← e]
  simp
 have H7 : Hid (g.st = 2) := h7
 clear h7 hm
 go_enter Tryz.func44, Tryz.ntmps44
 repeat' (first | (go_big_may; first | (refine v_box rfl rfl rfl ?_; intro u zg hN; replace hM := hM.new hN; clear hN) | (refine v_alloc rfl zer_greeting rfl ?_; intro u za hN; replace hM := hM.new hN; clear hN) | (refine v_get rfl rfl lod_int rfl hM.at1 (v := .int .i64 2) (by rw [← H7.out]; rfl) ?_) | (refine v_get rfl rfl (by first | exact lod_int | exact lod_str | exact lod_fcs | exact lod_err) rfl hM.at1 rfl ?_) | (refine v_load rfl rfl row_greeting rfl hM.at1 (Nat.le_refl _) (cut_all rfl) ?_) | (refine v_fill rfl rfl row_greeting rfl rfl hM.at0 (grl_vs _ hu) rfl ?_; intro u hv hc; replace hM := hM.put0 hc hv; clear hv hc)) | go_values | go_skip | go_guarded | go_step | go_upon | (simp only [Int.not_lt, Int.not_le] at *; go_simp))
 have h7 := H7.out
 refine bodyPost_ret (ret_2 rfl rfl (ld_var row_greeting hM.at0 rfl) rfl) rfl ⟨g, uv, ?_, hu, ?_, hM.below⟩
 ·rw [show (keepV g s).isSome = decide (s.size = 0) by rw [k27 (by omega)]; by_cases q : s.size = 0 <;> simp [q], ← HES.out]; rfl
 ·intro k' hk
  rw [k27 (by omega)] at hk
  by_cases q : s.size = 0
  ·rw [if_pos q] at hk; injection hk with hk; subst hk; exact ⟨rfl, .inl ⟨rfl, rfl⟩⟩
  ·rw [if_neg q] at hk; cases hk
set_option maxHeartbeats 8000000 in
theorem kept7_any (g : Gr) (uv : Value) (s : ByteArray) (w : World) (h7 : g.st = 7) (hu : uv.oneCell' = true) (hm : s.size ≤ maxLen) : Calls Tryz.prog 44 #[grV g uv, .string s] w (KrP g uv s w) := by
 have HZ : Hid (s.size ≤ maxLen) := hm
 have hM := Mm.nil w
 have HES : Hid (s.toList.isEmpty = decide (s.size = 0)) := by
  have e : (s.toList == (⟨#[]⟩ : ByteArray).toList) = decide (s.size = 0) := by
   rw [toList_beq]
   by_cases q : s.size = 0
   ·rw [decide_eq_true q, decide_eq_true]
    have : s.data = #[] := Array.eq_empty_of_size_eq_zero q
    cases s; simp only at this; rw [this]
   ·rw [decide_eq_false q, decide_eq_false]
    intro z; rw [z] at q; exact q rfl
  show _ = _
  rw [← e]
  simp
 have H7 : Hid (g.st = 7) := h7
 clear h7 hm
 go_enter Tryz.func44, Tryz.ntmps44
 repeat' (first | (go_big_may; first | (refine v_box rfl rfl rfl ?_; intro u zg hN; replace hM := hM.new hN; clear hN) | (refine v_alloc rfl zer_greeting rfl ?_; intro u za hN; replace hM := hM.new hN; clear hN) | (refine v_get rfl rfl lod_int rfl hM.at1 (v := .int .i64 7) (by rw [← H7.out]; rfl) ?_) | (refine v_get rfl rfl (by first | exact lod_int | exact lod_str | exact lod_fcs | exact lod_err) rfl hM.at1 rfl ?_) | (refine v_load rfl rfl row_greeting rfl hM.at1 (Nat.le_refl _) (cut_all rfl) ?_) | (refine v_fill rfl rfl row_greeting rfl rfl hM.at0 (grl_vs _ hu) rfl ?_; intro u hv hc; replace hM := hM.put0 hc hv; clear hv hc)) | go_values | go_skip | go_guarded | go_step | go_upon | (simp only [Int.not_lt, Int.not_le] at *; go_simp))
 have h7 := H7.out
 refine bodyPost_ret (ret_2 rfl rfl (ld_var row_greeting hM.at0 rfl) rfl) rfl ⟨g, uv, ?_, hu, ?_, hM.below⟩
 ·rw [show (keepV g s).isSome = decide (s.size = 0) by rw [k27 (by omega)]; by_cases q : s.size = 0 <;> simp [q], ← HES.out]; rfl
 ·intro k' hk
  rw [k27 (by omega)] at hk
  by_cases q : s.size = 0
  ·rw [if_pos q] at hk; injection hk with hk; subst hk; exact ⟨rfl, .inl ⟨rfl, rfl⟩⟩
  ·rw [if_neg q] at hk; cases hk
set_option maxHeartbeats 8000000 in
theorem kept1_any (g : Gr) (uv : Value) (s : ByteArray) (w : World) (h7 : g.st = 1) (hu : uv.oneCell' = true) (hm : s.size ≤ maxLen) : Calls Tryz.prog 44 #[grV g uv, .string s] w (KrP g uv s w) := by
 have HZ : Hid (s.size ≤ maxLen) := hm
 have hM := Mm.nil w
 have hbt := get_bt s
 have b0 := bt_nonneg s 7
 have b1 := bt_le s 7
 have hwr : IntKind.i64.wrap (bt s 7) = bt s 7 := by rw [IntKind.wrap_i64]; omega
 have HK : Hid (keepV g s = if hdD s = true then some { g with m0 := bt s 7 } else none) := k1 h7
 have HP : Hid (∀ w, Calls Tryz.prog 77 #[.string s, .string ⟨#[18, 1]⟩] w fun e w' => e = .returned (.bool (decide ((nums s).take 2 = [18, 1]))) ∧ w = w') := fun w => hasPrefix_any s ⟨#[18, 1]⟩ w hm (by decide)
 have HC : Hid (∀ B w, w.heap[B]? = some (bx 5 [.int .u8 8, .int .u8 16, .int .u8 32, .int .u8 64]) → Calls Tryz.prog 79 #[.slice (some ⟨B, 0, none⟩) 4 4, .int .u8 (bt s 7)] w fun e w' => e = .returned (.bool (m0B (bt s 7))) ∧ w = w') := fun B w hB => by
  have := containsB_any B [8, 16, 32, 64] (bt s 7) w (fun j y hy => bx_cell hB (by
   match j, hy with
   | 0, hy => injection hy with hy; subst hy; rfl
   | 1, hy => injection hy with hy; subst hy; rfl
   | 2, hy => injection hy with hy; subst hy; rfl
   | 3, hy => injection hy with hy; subst hy; rfl)) (by decide)
  rw [four_m0] at this
  exact this
 unfold maxLen at hm
 by_cases h8 : s.size = 8
 case neg =>
  have HD : Hid (hdD s = false) := by show _ = _; unfold hdD; rw [decide_eq_false h8, Bool.false_and]
  have e1 : ((s.size : Int) != 8) = true := by simp; omega
  clear h8
  have H7 : Hid (g.st = 1) := h7
  clear h7 hm
  go_enter Tryz.func44, Tryz.ntmps44
  repeat' (first | (go_big_may; first | (refine v_box rfl rfl rfl ?_; intro u zg hN; replace hM := hM.new hN; clear hN) | (refine v_alloc rfl zer_greeting rfl ?_; intro u za hN; replace hM := hM.new hN; clear hN) | (refine v_get rfl rfl lod_int rfl hM.at1 (v := .int .i64 1) (by rw [← H7.out]; rfl) ?_) | (refine v_get rfl rfl (by first | exact lod_int | exact lod_str | exact lod_fcs | exact lod_err) rfl hM.at1 rfl ?_) | (refine v_load rfl rfl row_greeting rfl hM.at1 (Nat.le_refl _) (cut_all rfl) ?_) | (refine v_fill rfl rfl row_greeting rfl rfl hM.at0 (grl_vs _ hu) rfl ?_; intro u hv hc; replace hM := hM.put0 hc hv; clear hv hc)) | go_values | go_skip | go_guarded | go_step | go_upon | (simp only [Int.not_lt, Int.not_le] at *; go_simp))
  have h7 := H7.out
  have hno : (keepV g s).isSome = false := by rw [HK.out, HD.out]; rfl
  exact bodyPost_ret (ret_2 rfl rfl (ld_var row_greeting hM.at0 rfl) rfl) rfl ⟨g, uv, by rw [hno]; rfl, hu, kr_no hno, hM.below⟩
 have HPT : Hid (decide ((nums s).take 2 = [18, 1]) = (bt s 0 == 18 && bt s 1 == 1)) := pre_two s 18 1 (by omega)
 have e1 : ((s.size : Int) != 8) = false := by simp; omega
 cases hp : decide ((nums s).take 2 = [18, 1])
 case false =>
  rw [hp] at HP
  have HD : Hid (hdD s = false) := by show _ = _; unfold hdD; rw [decide_eq_true h8, Bool.true_and, ← Bool.and_assoc, ← HPT.out, hp, Bool.false_and]
  clear h8 hp
  have H7 : Hid (g.st = 1) := h7
  clear h7 hm
  go_enter Tryz.func44, Tryz.ntmps44
  repeat' (first | (go_big_may; first | (refine v_box rfl rfl rfl ?_; intro u zg hN; replace hM := hM.new hN; clear hN) | (refine v_alloc rfl zer_greeting rfl ?_; intro u za hN; replace hM := hM.new hN; clear hN) | (refine v_get rfl rfl lod_int rfl hM.at1 (v := .int .i64 1) (by rw [← H7.out]; rfl) ?_) | (refine v_get rfl rfl (by first | exact lod_int | exact lod_str | exact lod_fcs | exact lod_err) rfl hM.at1 rfl ?_) | (refine v_load rfl rfl row_greeting rfl hM.at1 (Nat.le_refl _) (cut_all rfl) ?_) | (refine v_fill rfl rfl row_greeting rfl rfl hM.at0 (grl_vs _ hu) rfl ?_; intro u hv hc; replace hM := hM.put0 hc hv; clear hv hc)) | go_values | go_skip | go_guarded | go_step | go_upon | (simp only [Int.not_lt, Int.not_le] at *; go_simp))
  refine (HP.out _).mono ?_
  rintro e u1 ⟨rfl, rfl⟩
  repeat' (first | (go_big_may; first | (refine v_load rfl rfl row_greeting rfl hM.at1 (Nat.le_refl _) (cut_all rfl) ?_) | (refine v_fill rfl rfl row_greeting rfl rfl hM.at0 (grl_vs _ hu) rfl ?_; intro u hv hc; replace hM := hM.put0 hc hv; clear hv hc)) | go_values | go_skip | go_guarded | go_step | go_upon | (simp only [Int.not_lt, Int.not_le] at *; go_simp))
  have h7 := H7.out
  have hno : (keepV g s).isSome = false := by rw [HK.out, HD.out]; rfl
  exact bodyPost_ret (ret_2 rfl rfl (ld_var row_greeting hM.at0 rfl) rfl) rfl ⟨g, uv, by rw [hno]; rfl, hu, kr_no hno, hM.below⟩
 rw [hp] at HP
 have h7s : 7 < s.size := by omega
 have x7 : ∀ W : World, (Instr.index 9 (.string s) (.int .i64 7)).run Tryz.prog W = .ok (.int .u8 (bt s 7)) W := desc.run_ix s 7 h7s
 cases hc : m0B (bt s 7)
 case false =>
  rw [hc] at HC
  have HD : Hid (hdD s = false) := by show _ = _; unfold hdD; rw [decide_eq_true h8, Bool.true_and, ← Bool.and_assoc, ← HPT.out, hp, hc]; rfl
  clear h8 hp hc
  have H7 : Hid (g.st = 1) := h7
  clear h7 hm
  go_enter Tryz.func44, Tryz.ntmps44
  repeat' (first | (go_big_may; first | (refine v_box rfl rfl rfl ?_; intro u zg hN; replace hM := hM.new hN; clear hN) | (refine v_alloc rfl zer_greeting rfl ?_; intro u za hN; replace hM := hM.new hN; clear hN) | (refine v_get rfl rfl lod_int rfl hM.at1 (v := .int .i64 1) (by rw [← H7.out]; rfl) ?_) | (refine v_get rfl rfl (by first | exact lod_int | exact lod_str | exact lod_fcs | exact lod_err) rfl hM.at1 rfl ?_) | (refine v_load rfl rfl row_greeting rfl hM.at1 (Nat.le_refl _) (cut_all rfl) ?_) | (refine v_fill rfl rfl row_greeting rfl rfl hM.at0 (grl_vs _ hu) rfl ?_; intro u hv hc; replace hM := hM.put0 hc hv; clear hv hc)) | go_values | go_skip | go_guarded | go_step | go_upon | (simp only [Int.not_lt, Int.not_le] at *; go_simp))
  refine (HP.out _).mono ?_
  rintro e u1 ⟨rfl, rfl⟩
  repeat' (first | (go_big_may; first | (refine v_bsN rfl rfl bs_four ?hbv ?_; (case hbv => simp [Act.eval, Act.put]); intro u zl hN; replace hM := hM.new hN; clear hN)) | go_values | go_skip | go_guarded | go_step | go_upon | (simp only [Int.not_lt, Int.not_le] at *; go_simp))
  refine (HC.out _ _ hM.at0).mono ?_
  rintro e u2 ⟨rfl, rfl⟩
  repeat' (first | (go_big_may; first | (refine v_load rfl rfl row_greeting rfl hM.at2 (Nat.le_refl _) (cut_all rfl) ?_) | (refine v_fill rfl rfl row_greeting rfl rfl hM.at1 (grl_vs _ hu) rfl ?_; intro u hv hc; replace hM := hM.put1 hc hv; clear hv hc)) | go_values | go_skip | go_guarded | go_step | go_upon | (simp only [Int.not_lt, Int.not_le] at *; go_simp))
  have h7 := H7.out
  have hno : (keepV g s).isSome = false := by rw [HK.out, HD.out]; rfl
  exact bodyPost_ret (ret_2 rfl rfl (ld_var row_greeting hM.at1 rfl) rfl) rfl ⟨g, uv, by rw [hno]; rfl, hu, kr_no hno, hM.below⟩
 rw [hc] at HC
 have HD : Hid (hdD s = true) := by show _ = _; unfold hdD; rw [decide_eq_true h8, Bool.true_and, ← Bool.and_assoc, ← HPT.out, hp, hc]; rfl
 clear h8 hp hc
 have H7 : Hid (g.st = 1) := h7
 clear h7 hm
 go_enter Tryz.func44, Tryz.ntmps44
 repeat' (first | (go_big_may; first | (refine v_box rfl rfl rfl ?_; intro u zg hN; replace hM := hM.new hN; clear hN) | (refine v_alloc rfl zer_greeting rfl ?_; intro u za hN; replace hM := hM.new hN; clear hN) | (refine v_get rfl rfl lod_int rfl hM.at1 (v := .int .i64 1) (by rw [← H7.out]; rfl) ?_) | (refine v_get rfl rfl (by first | exact lod_int | exact lod_str | exact lod_fcs | exact lod_err) rfl hM.at1 rfl ?_) | (refine v_load rfl rfl row_greeting rfl hM.at1 (Nat.le_refl _) (cut_all rfl) ?_) | (refine v_fill rfl rfl row_greeting rfl rfl hM.at0 (grl_vs _ hu) rfl ?_; intro u hv hc; replace hM := hM.put0 hc hv; clear hv hc)) | go_values | go_skip | go_guarded | go_step | go_upon | (simp only [Int.not_lt, Int.not_le] at *; go_simp))
 refine (HP.out _).mono ?_
 rintro e u1 ⟨rfl, rfl⟩
 repeat' (first | (go_big_may; first | (refine v_bsN rfl rfl bs_four ?hbv ?_; (case hbv => simp [Act.eval, Act.put]); intro u zl hN; replace hM := hM.new hN; clear hN)) | go_values | go_skip | go_guarded | go_step | go_upon | (simp only [Int.not_lt, Int.not_le] at *; go_simp))
 refine (HC.out _ _ hM.at0).mono ?_
 rintro e u2 ⟨rfl, rfl⟩
 repeat' (first | (go_big_may; first | (refine v_putx rfl rfl (one_int (bt s 7)) rfl rfl hM.at2 (of_decide_eq_true rfl) (show _ = grl { g with m0 := bt s 7 } uv from rfl) ?_; intro u hv hc; replace hM := hM.put2 hc hv; clear hv hc) | (refine v_load rfl rfl row_greeting rfl hM.at2 (Nat.le_refl _) (cut_all rfl) ?_) | (refine v_fill rfl rfl row_greeting rfl rfl hM.at1 (grl_vs _ hu) rfl ?_; intro u hv hc; replace hM := hM.put1 hc hv; clear hv hc)) | go_values | go_skip | go_guarded | go_step | go_upon | (simp only [Int.not_lt, Int.not_le] at *; go_simp))
 have hK : keepV g s = some { g with m0 := bt s 7 } := by rw [HK.out, HD.out]; rfl
 exact bodyPost_ret (ret_2 rfl rfl (ld_var row_greeting hM.at1 rfl) rfl) rfl ⟨{ g with m0 := bt s 7 }, uv, by rw [hK]; rfl, hu, fun k' hk => by rw [hK] at hk; injection hk with hk; exact ⟨hk, .inl ⟨rfl, rfl⟩⟩, hM.below⟩
set_option maxHeartbeats 8000000 in
theorem kept6_any (g : Gr) (uv : Value) (s : ByteArray) (w : World) (h7 : g.st = 6) (hu : uv.oneCell' = true) (hm : s.size ≤ maxLen) : Calls Tryz.prog 44 #[grV g uv, .string s] w (KrP g uv s w) := by
 have HZ : Hid (s.size ≤ maxLen) := hm
 have hM := Mm.nil w
 have HR : Hid (∀ w, Calls Tryz.prog 82 #[.string s] w fun e w' => e = .returned (.tuple #[.string (rdT s), .int .i64 (rdC s)]) ∧ Below w.heap.size w w') := fun w => rreadText_any s w hm
 have HQ : Hid ((keepV g s).isSome = (rdC s == 0)) := by show _ = _; rw [k6 h7]; by_cases q : rdC s = 0 <;> simp [q]
 have HK6 : Hid (∀ k', keepV g s = some k' → { g with sr := rdT s } = k') := fun k' hk => by
  rw [k6 h7] at hk
  by_cases q : rdC s = 0
  ·rw [if_pos q] at hk; injection hk
  ·rw [if_neg q] at hk; cases hk
 have H7 : Hid (g.st = 6) := h7
 clear h7 hm
 go_enter Tryz.func44, Tryz.ntmps44
 repeat' (first | (go_big_may; first | (refine v_box rfl rfl rfl ?_; intro u zg hN; replace hM := hM.new hN; clear hN) | (refine v_alloc rfl zer_greeting rfl ?_; intro u za hN; replace hM := hM.new hN; clear hN) | (refine v_get rfl rfl lod_int rfl hM.at1 (v := .int .i64 6) (by rw [← H7.out]; rfl) ?_) | (refine v_get rfl rfl (by first | exact lod_int | exact lod_str | exact lod_fcs | exact lod_err) rfl hM.at1 rfl ?_) | (refine v_load rfl rfl row_greeting rfl hM.at1 (Nat.le_refl _) (cut_all rfl) ?_) | (refine v_fill rfl rfl row_greeting rfl rfl hM.at0 (grl_vs _ hu) rfl ?_; intro u hv hc; replace hM := hM.put0 hc hv; clear hv hc)) | go_values | go_skip | go_guarded | go_step | go_upon | (simp only [Int.not_lt, Int.not_le] at *; go_simp))
 refine (HR.out _).mono ?_
 rintro e u1 ⟨rfl, hb⟩
 replace hM := hM.call hb
 clear hb
 repeat' (first | (go_big_may; first | (refine v_putx rfl rfl (one_str (rdT s)) rfl rfl hM.at1 (of_decide_eq_true rfl) (show _ = grl { g with sr := rdT s } uv from rfl) ?_; intro u hv hc; replace hM := hM.put1 hc hv; clear hv hc) | (refine v_load rfl rfl row_greeting rfl hM.at1 (Nat.le_refl _) (cut_all rfl) ?_) | (refine v_fill rfl rfl row_greeting rfl rfl hM.at0 (grl_vs _ hu) rfl ?_; intro u hv hc; replace hM := hM.put0 hc hv; clear hv hc)) | go_values | go_skip | go_guarded | go_step | go_upon | (simp only [Int.not_lt, Int.not_le] at *; go_simp))
 exact bodyPost_ret (ret_2 rfl rfl (ld_var row_greeting hM.at0 rfl) rfl) rfl ⟨{ g with sr := rdT s }, uv, by rw [HQ.out]; rfl, hu, fun k' hk => ⟨HK6.out k' hk, .inl ⟨rfl, rfl⟩⟩, hM.below⟩
set_option maxHeartbeats 8000000 in
theorem kept4_any (g : Gr) (uv : Value) (s : ByteArray) (w : World) (h7 : g.st = 4) (hu : uv.oneCell' = true) (hm : s.size ≤ maxLen) : Calls Tryz.prog 44 #[grV g uv, .string s] w (KrP g uv s w) := by
 have HZ : Hid (s.size ≤ maxLen) := hm
 have hM := Mm.nil w
 have HK : Hid (keepV g s = if hdC s = true then some { g with tot := w2 s } else none) := k4 h7
 have HP : Hid (∀ w, Calls Tryz.prog 77 #[.string s, .string ⟨#[9, 2]⟩] w fun e w' => e = .returned (.bool (decide ((nums s).take 2 = [9, 2]))) ∧ w = w') := fun w => hasPrefix_any s ⟨#[9, 2]⟩ w hm (by decide)
 have HBt : Hid (∀ w, Calls Tryz.prog 13 #[.int .i64 (w2 s), .int .i64 9, .int .i64 512] w fun e w' => e = .returned (.bool (inS 9 512 (w2 s))) ∧ Below w.heap.size w w') := fun w => (rbetween_any _ _ _ w).mono fun e w' ⟨h1, h2⟩ => ⟨h1, by rw [h2]; exact Below.refl _ _⟩
 have HWd : Hid (3 < s.size → ∀ w, Calls Tryz.prog 78 #[.string s, .int .i64 2] w fun e w' => e = .returned (.int .i64 (w2 s)) ∧ Below w.heap.size w w') := fun h w => (desc.wordAt_any s 2 w h hm).mono fun e w' ⟨h1, q, h2⟩ => ⟨by rw [h1, desc.wd_at s 2 h]; rfl, by rw [h2]; exact below_drewN (Below.refl _ _) _⟩
 unfold maxLen at hm
 by_cases h8 : s.size = 9
 case neg =>
  have HD : Hid (hdC s = false) := by show _ = _; unfold hdC; rw [decide_eq_false h8, Bool.false_and]
  have e1 : ((s.size : Int) != 9) = true := by simp; omega
  clear h8
  have H7 : Hid (g.st = 4) := h7
  clear h7 hm
  go_enter Tryz.func44, Tryz.ntmps44
  repeat' (first | (go_big_may; first | (refine v_box rfl rfl rfl ?_; intro u zg hN; replace hM := hM.new hN; clear hN) | (refine v_alloc rfl zer_greeting rfl ?_; intro u za hN; replace hM := hM.new hN; clear hN) | (refine v_get rfl rfl lod_int rfl hM.at1 (v := .int .i64 4) (by rw [← H7.out]; rfl) ?_) | (refine v_get rfl rfl (by first | exact lod_int | exact lod_str | exact lod_fcs | exact lod_err) rfl hM.at1 rfl ?_) | (refine v_load rfl rfl row_greeting rfl hM.at1 (Nat.le_refl _) (cut_all rfl) ?_) | (refine v_fill rfl rfl row_greeting rfl rfl hM.at0 (grl_vs _ hu) rfl ?_; intro u hv hc; replace hM := hM.put0 hc hv; clear hv hc)) | go_values | go_skip | go_guarded | go_step | go_upon | (simp only [Int.not_lt, Int.not_le] at *; go_simp))
  have h7 := H7.out
  have hno : (keepV g s).isSome = false := by rw [HK.out, HD.out]; rfl
  exact bodyPost_ret (ret_2 rfl rfl (ld_var row_greeting hM.at0 rfl) rfl) rfl ⟨g, uv, by rw [hno]; rfl, hu, kr_no hno, hM.below⟩
 have HPT : Hid (decide ((nums s).take 2 = [9, 2]) = (bt s 0 == 9 && bt s 1 == 2)) := pre_two s 9 2 (by omega)
 have HW2 : Hid (∀ w, Calls Tryz.prog 78 #[.string s, .int .i64 2] w fun e w' => e = .returned (.int .i64 (w2 s)) ∧ Below w.heap.size w w') := HWd.out (by omega)
 have e1 : ((s.size : Int) != 9) = false := by simp; omega
 cases hp : decide ((nums s).take 2 = [9, 2])
 case false =>
  rw [hp] at HP
  have HD : Hid (hdC s = false) := by show _ = _; unfold hdC; rw [decide_eq_true h8, Bool.true_and, ← Bool.and_assoc, ← HPT.out, hp, Bool.false_and]
  clear h8 hp
  have H7 : Hid (g.st = 4) := h7
  clear h7 hm
  go_enter Tryz.func44, Tryz.ntmps44
  repeat' (first | (go_big_may; first | (refine v_box rfl rfl rfl ?_; intro u zg hN; replace hM := hM.new hN; clear hN) | (refine v_alloc rfl zer_greeting rfl ?_; intro u za hN; replace hM := hM.new hN; clear hN) | (refine v_get rfl rfl lod_int rfl hM.at1 (v := .int .i64 4) (by rw [← H7.out]; rfl) ?_) | (refine v_get rfl rfl (by first | exact lod_int | exact lod_str | exact lod_fcs | exact lod_err) rfl hM.at1 rfl ?_) | (refine v_load rfl rfl row_greeting rfl hM.at1 (Nat.le_refl _) (cut_all rfl) ?_) | (refine v_fill rfl rfl row_greeting rfl rfl hM.at0 (grl_vs _ hu) rfl ?_; intro u hv hc; replace hM := hM.put0 hc hv; clear hv hc)) | go_values | go_skip | go_guarded | go_step | go_upon | (simp only [Int.not_lt, Int.not_le] at *; go_simp))
  refine (HP.out _).mono ?_
  rintro e u1 ⟨rfl, rfl⟩
  repeat' (first | (go_big_may; first | (refine v_load rfl rfl row_greeting rfl hM.at1 (Nat.le_refl _) (cut_all rfl) ?_) | (refine v_fill rfl rfl row_greeting rfl rfl hM.at0 (grl_vs _ hu) rfl ?_; intro u hv hc; replace hM := hM.put0 hc hv; clear hv hc)) | go_values | go_skip | go_guarded | go_step | go_upon | (simp only [Int.not_lt, Int.not_le] at *; go_simp))
  have h7 := H7.out
  have hno : (keepV g s).isSome = false := by rw [HK.out, HD.out]; rfl
  exact bodyPost_ret (ret_2 rfl rfl (ld_var row_greeting hM.at0 rfl) rfl) rfl ⟨g, uv, by rw [hno]; rfl, hu, kr_no hno, hM.below⟩
 rw [hp] at HP
 have HD : Hid (hdC s = inS 9 512 (w2 s)) := by show _ = _; unfold hdC; rw [decide_eq_true h8, Bool.true_and, ← Bool.and_assoc, ← HPT.out, hp, Bool.true_and]
 clear h8 hp
 have HG1 : Hid ((grl { g with tot := w2 s } uv)[4]? = some (.int .i64 (w2 s))) := rfl
 have HL : Hid (0 + 24 ≤ (grl { g with tot := w2 s } uv).length) := Nat.le_refl _
 have HC : Hid (cut (grl { g with tot := w2 s } uv) 0 24 = grl { g with tot := w2 s } uv) := cut_all rfl
 have HV : Hid (Vs (grl { g with tot := w2 s } uv) 24) := grl_vs _ hu
 have H7 : Hid (g.st = 4) := h7
 clear h7 hm
 go_enter Tryz.func44, Tryz.ntmps44
 repeat' (first | (go_big_may; first | (refine v_box rfl rfl rfl ?_; intro u zg hN; replace hM := hM.new hN; clear hN) | (refine v_alloc rfl zer_greeting rfl ?_; intro u za hN; replace hM := hM.new hN; clear hN) | (refine v_get rfl rfl lod_int rfl hM.at1 (v := .int .i64 4) (by rw [← H7.out]; rfl) ?_) | (refine v_get rfl rfl (by first | exact lod_int | exact lod_str | exact lod_fcs | exact lod_err) rfl hM.at1 rfl ?_) | (refine v_load rfl rfl row_greeting rfl hM.at1 (Nat.le_refl _) (cut_all rfl) ?_) | (refine v_fill rfl rfl row_greeting rfl rfl hM.at0 (grl_vs _ hu) rfl ?_; intro u hv hc; replace hM := hM.put0 hc hv; clear hv hc)) | go_values | go_skip | go_guarded | go_step | go_upon | (simp only [Int.not_lt, Int.not_le] at *; go_simp))
 refine (HP.out _).mono ?_
 rintro e u1 ⟨rfl, rfl⟩
 repeat' (first | go_values | go_skip | go_guarded | go_step | go_upon | (simp only [Int.not_lt, Int.not_le] at *; go_simp))
 refine (HW2.out _).mono ?_
 rintro e u2 ⟨rfl, hb⟩
 replace hM := hM.call hb
 clear hb
 repeat' (first | (go_big_may; first | (refine v_putx rfl rfl (one_int (w2 s)) rfl rfl hM.at1 (of_decide_eq_true rfl) (show _ = grl { g with tot := w2 s } uv from rfl) ?_; intro u hv hc; replace hM := hM.put1 hc hv; clear hv hc)) | go_values | go_skip | go_guarded | go_step | go_upon | (simp only [Int.not_lt, Int.not_le] at *; go_simp))
 generalize hib : inS 9 512 (w2 s) = ib at *
 go_upto_region 19 with (fail)
 refine reg.wp_abs (fun a0 => a0.tmps.size = 111 ∧ (∀ h, a0.tmps[2]'h = .pointer (some ⟨zg, 0, none⟩)) ∧ (∀ h, a0.tmps[4]'h = .pointer (some ⟨za, 0, none⟩))) ⟨rfl, fun _ => rfl, fun _ => rfl⟩ ?_
 rintro a0 ⟨hsz, s2, s4⟩ ha0
 refine reg.wp_region_E (S := fun W => Ls W [(zg, 33, (grl { g with tot := w2 s } uv))]) (E := fun _ => false) (by kernel_rfl) ?_
 replace hM := hM.drew
 refine reg.e_take (i := 0) (ag ((grl { g with tot := w2 s } uv))) rfl (by kernel_rfl) (by kernel_rfl) (by kernel_rfl) (by kernel_rfl) (fun _ _ _ h => h) (reg.wanted_none rfl) (hM.ls (by simp)) (fun W hW => ex_load rfl row_greeting (by simp [go_sem, Act.put, hsz, s2, s4]) hW.at0 HL.out HC.out) ?_
 refine reg.e_take (i := 1) (.pointer (some ⟨zg, 4, none⟩)) rfl (by kernel_rfl) (by kernel_rfl) (by kernel_rfl) (by kernel_rfl) (fun _ _ _ h => h) (reg.wanted_none rfl) (hM.ls (by simp)) (fun W hW => by simp [execOp, go_sem, Act.put, hsz, s2, s4]) ?_
 refine reg.e_take (i := 2) (.int .i64 (w2 s)) rfl (by kernel_rfl) (by kernel_rfl) (by kernel_rfl) (by kernel_rfl) (fun _ _ _ h => h) (reg.wanted_none rfl) (hM.ls (by simp)) (fun W hW => ex_get rfl (by simp [go_sem, Act.put, hsz, s2, s4]) hW.at0 HG1.out) ?_
 refine reg.e_one 3 (by kernel_rfl) rfl ?_
 refine reg.r_call (i := 3) 13 #[.int .i64 (w2 s), .int .i64 9, .int .i64 512] rfl (reg.wanted_none rfl) (by simp [execOp, go_sem, Act.put, hsz, s2, s4]) ((HBt.out _).mono ?_)
 rintro re ru1 ⟨rfl, rhv⟩
 replace hM := hM.call rhv
 clear rhv
 refine ⟨_, rfl, hM.ls (by simp), ?_⟩
 refine reg.e_one 4 (by kernel_rfl) rfl ?_
 refine r_fill (i := 4) rfl (reg.wanted_none rfl) rfl row_greeting (by simp [go_sem, Act.put, hsz, s2, s4]) (by simp [go_sem, Act.put, hsz, s2, s4]) hM.at0 HV.out rfl ?_
 intro ru2 rhv rhc
 replace hM := hM.put0 rhc rhv
 clear rhc rhv
 refine ⟨hM.ls (by simp), ?_⟩
 refine reg.e_take (i := 5) (.bool ib) rfl (by kernel_rfl) (by kernel_rfl) (by kernel_rfl) (by kernel_rfl) (fun _ _ _ h => h) (reg.wanted_none rfl) (hM.ls (by simp)) (fun W hW => by simp [execOp, go_sem, Act.put, hsz, s2, s4]) ?_
 refine reg.e_done (by kernel_rfl) ?_ _
 subst ha0
 clear hsz s2 s4
 go_simp
 repeat' (first | go_values | go_skip | go_guarded | go_step | go_upon | (simp only [Int.not_lt, Int.not_le] at *; go_simp))
 have h7 := H7.out
 refine bodyPost_ret (ret_2 rfl rfl (ld_var row_greeting hM.at0 rfl) rfl) rfl ⟨{ g with tot := w2 s }, uv, ?_, hu, ?_, hM.below⟩
 ·have hq : (keepV g s).isSome = ib := by rw [HK.out, HD.out]; cases ib <;> rfl
  rw [hq]; rfl
 ·intro k' hk
  rw [HK.out, HD.out] at hk
  by_cases q : ib = true
  ·rw [if_pos q] at hk; injection hk with hk; exact ⟨hk, .inl ⟨rfl, rfl⟩⟩
  ·rw [if_neg q] at hk; cases hk
set_option maxHeartbeats 8000000 in
theorem kept5_any (hrr : descReads.RrAll) (g : Gr) (uv : Value) (s : ByteArray) (w : World) (h7 : g.st = 5) (hu : uv.oneCell' = true) (hm : s.size ≤ maxLen) : Calls Tryz.prog 44 #[grV g uv, .string s] w (KrP g uv s w) := by
 have HZ : Hid (s.size ≤ maxLen) := hm
 have hM := Mm.nil w
 have HR : Hid (∀ w, Calls Tryz.prog 81 #[.string s] w (RrP s w)) := fun w => hrr s w hm
 have HQ : Hid ((keepV g s).isSome = rgB s g.tot) := k5_some h7
 have HK5 : Hid (∀ k', keepV g s = some k' → ∃ c, rcO s = some c ∧ k' = { g with c := c }) := fun k' hk => by
  rw [k5 h7] at hk
  cases hc : rcO s with
  | none => rw [hc] at hk; cases hk
  | some c =>
   rw [hc] at hk
   by_cases q : (s.size : Int) = g.tot
   ·simp only [q, if_true] at hk; injection hk with hk; exact ⟨c, rfl, hk.symm⟩
   ·simp only [q, if_false] at hk; cases hk
 have hbz : ∃ b, decide ((s.size : Int) = g.tot) = b := ⟨_, rfl⟩
 obtain ⟨bz, hbz⟩ := hbz
 have HBZ : Hid (decide ((s.size : Int) = g.tot) = bz) := hbz
 clear hbz
 have hM : Mo w w [] nilS [] := Mo.nil w
 have H7 : Hid (g.st = 5) := h7
 clear h7 hm
 go_enter Tryz.func44, Tryz.ntmps44
 repeat' (first | (go_big_may; first | (refine v_box rfl rfl rfl ?_; intro u zg hN; replace hM := hM.new hN; clear hN) | (refine v_alloc rfl zer_greeting rfl ?_; intro u za hN; replace hM := hM.new hN; clear hN) | (refine v_get rfl rfl lod_int rfl hM.at1 (v := .int .i64 5) (by rw [← H7.out]; rfl) ?_) | (refine v_get rfl rfl (by first | exact lod_int | exact lod_str | exact lod_fcs | exact lod_err) rfl hM.at1 rfl ?_) | (refine v_load rfl rfl row_greeting rfl hM.at1 (Nat.le_refl _) (cut_all rfl) ?_) | (refine v_fill rfl rfl row_greeting rfl rfl hM.at0 (grl_vs _ hu) rfl ?_; intro u hv hc; replace hM := hM.put0 hc hv; clear hv hc)) | go_values | go_skip | go_guarded | go_step | go_upon | (simp only [Int.not_lt, Int.not_le] at *; go_simp))
 refine (HR.out _).mono ?_
 rintro e u1 hp
 have hX : ∃ c vf z L, e = .returned (.tuple #[ag (cfl c vf), .int .i64 z]) ∧ Oc u u1 vf L ∧ ((z == 0) && bz) = rgB s g.tot ∧ L.map Prod.fst = c.fs ∧ (rgB s g.tot = true → rcO s = some c) ∧ Below u.heap.size u u1 := by
  rcases rr_cases hp with ⟨z, hz, hn, rfl, hb⟩ | ⟨c, vf, L, hs, rfl, ho, he, hb⟩
  ·refine ⟨noC, nilS, z, [], rfl, Oc.nil _ _, ?_, rfl, ?_, hb⟩
   ·rw [rgB_none hn, show (z == 0) = false by simpa using hz]; rfl
   ·intro q; rw [rgB_none hn] at q; cases q
  ·refine ⟨c, vf, 0, L, rfl, ho, ?_, he, fun _ => hs, hb⟩
   rw [rgB_some hs, HBZ.out]; rfl
 obtain ⟨c, vf, z, L, rfl, ho, hz, he, h3, hb⟩ := hX
 have HO : Hid (vf.oneCell' = true) := ho.one
 replace hM := hM.take hb ho
 have HZ2 : Hid (((z == 0) && bz) = rgB s g.tot) := hz
 have HE : Hid (L.map Prod.fst = c.fs) := he
 have HKK : Hid (∀ k', keepV g s = some k' → { g with c := c } = k') := fun k' hk => by
  obtain ⟨c', h5, h6⟩ := HK5.out k' hk
  have h7 : (keepV g s).isSome = true := by rw [hk]; rfl
  rw [HQ.out] at h7
  have h8 := h3 h7
  rw [h5] at h8
  injection h8 with h8
  rw [h6, h8]
 clear hb ho hz he h3 hp
 repeat' (first | (go_big_may; first | (refine v_store rfl rfl row_config rfl rfl hM.at1 (cfl_vs c HO.out) (of_decide_eq_true rfl) (show _ = grl { g with c := c } vf from rfl) ?_; intro u hv hc; replace hM := hM.put1 hc hv; clear hv hc)) | go_values | go_skip | go_guarded | go_step | go_upon | (simp only [Int.not_lt, Int.not_le] at *; go_simp))
 have HG4 : Hid ((grl { g with c := c } vf)[4]? = some (.int .i64 g.tot)) := rfl
 have HL : Hid (0 + 24 ≤ (grl { g with c := c } vf).length) := Nat.le_refl _
 have HC : Hid (cut (grl { g with c := c } vf) 0 24 = grl { g with c := c } vf) := cut_all rfl
 have HV : Hid (Vs (grl { g with c := c } vf) 24) := grl_vs _ HO.out
 go_upto_region 22 with (fail)
 cases ha : (z == 0)
 case false =>
  refine reg.wp_abs (fun a0 => a0.tmps.size = 111 ∧ (∀ h, a0.tmps[1]'h = .string s) ∧ (∀ h, a0.tmps[2]'h = .pointer (some ⟨zg, 0, none⟩)) ∧ (∀ h, a0.tmps[4]'h = .pointer (some ⟨za, 0, none⟩)) ∧ (∀ h, a0.tmps[6]'h = .int .i64 z)) ⟨rfl, fun _ => rfl, fun _ => rfl, fun _ => rfl, fun _ => rfl⟩ ?_
  rintro a0 ⟨hsz, s1, s2, s4, s6⟩ ha0
  refine reg.wp_region_E (S := fun W => Ls W [(zg, 33, (grl { g with c := c } vf))]) (E := fun _ => false) (by kernel_rfl) ?_
  replace hM := hM.drew
  refine reg.e_take (i := 0) (ag ((grl { g with c := c } vf))) rfl (by kernel_rfl) (by kernel_rfl) (by kernel_rfl) (by kernel_rfl) (fun _ _ _ h => h) (reg.wanted_none rfl) (hM.ls (by simp)) (fun W hW => ex_load rfl row_greeting (by simp [go_sem, Act.put, hsz, s1, s2, s4, s6]) hW.at0 HL.out HC.out) ?_
  refine reg.e_take (i := 1) (.int .i64 z) rfl (by kernel_rfl) (by kernel_rfl) (by kernel_rfl) (by kernel_rfl) (fun _ _ _ h => h) (reg.wanted_none rfl) (hM.ls (by simp)) (fun W hW => by simp [execOp, go_sem, Act.put, hsz, s1, s2, s4, s6]) ?_
  refine reg.e_take (i := 2) (.bool false) rfl (by kernel_rfl) (by kernel_rfl) (by kernel_rfl) (by kernel_rfl) (fun _ _ _ h => h) (reg.wanted_none rfl) (hM.ls (by simp)) (fun W hW => by simp [execOp, go_sem, Act.put, hsz, s1, s2, s4, s6, ha]) ?_
  refine reg.e_take (i := 3) (.bool false) rfl (by kernel_rfl) (by kernel_rfl) (by kernel_rfl) (by kernel_rfl) (fun _ _ _ h => h) (reg.wanted_none rfl) (hM.ls (by simp)) (fun W hW => by simp [execOp, go_sem, Act.put, hsz, s1, s2, s4, s6]) ?_
  refine reg.e_pass (i := 4) rfl (by kernel_rfl) (by kernel_rfl) (by kernel_rfl) (by kernel_rfl) (fun _ _ _ h => h) (reg.unwanted_of 3 true 95 rfl (by kernel_rfl) (by simp [Act.put, hsz])) (hM.ls (by simp)) ?_
  refine reg.e_pass (i := 5) rfl (by kernel_rfl) (by kernel_rfl) (by kernel_rfl) (by kernel_rfl) (fun _ _ _ h => h) (reg.unwanted_of 3 true 95 rfl (by kernel_rfl) (by simp [Act.put, hsz])) (hM.ls (by simp)) ?_
  refine reg.e_pass (i := 6) rfl (by kernel_rfl) (by kernel_rfl) (by kernel_rfl) (by kernel_rfl) (fun _ _ _ h => h) (reg.unwanted_of 3 true 95 rfl (by kernel_rfl) (by simp [Act.put, hsz])) (hM.ls (by simp)) ?_
  refine reg.e_pass (i := 7) rfl (by kernel_rfl) (by kernel_rfl) (by kernel_rfl) (by kernel_rfl) (fun _ _ _ h => h) (reg.unwanted_of 3 true 95 rfl (by kernel_rfl) (by simp [Act.put, hsz])) (hM.ls (by simp)) ?_
  refine reg.e_pass (i := 8) rfl (by kernel_rfl) (by kernel_rfl) (by kernel_rfl) (by kernel_rfl) (fun _ _ _ h => h) (reg.unwanted_of 3 true 95 rfl (by kernel_rfl) (by simp [Act.put, hsz])) (hM.ls (by simp)) ?_
  refine reg.e_take (i := 9) (.bool false) rfl (by kernel_rfl) (by kernel_rfl) (by kernel_rfl) (by kernel_rfl) (fun _ _ _ h => h) (reg.wanted_none rfl) (hM.ls (by simp)) (fun W hW => by simp [execOp, go_sem, Act.put, hsz, s1, s2, s4, s6]) ?_
  refine reg.e_one 10 (by kernel_rfl) rfl ?_
  refine r_fill (i := 10) rfl (reg.wanted_none rfl) rfl row_greeting (by simp [go_sem, Act.put, hsz, s1, s2, s4, s6]) (by simp [go_sem, Act.put, hsz, s1, s2, s4, s6]) hM.at0 HV.out rfl ?_
  intro ru1 rhv rhc
  replace hM := hM.put0 rhc rhv
  clear rhc rhv
  refine ⟨hM.ls (by simp), ?_⟩
  refine reg.e_take (i := 11) (.bool false) rfl (by kernel_rfl) (by kernel_rfl) (by kernel_rfl) (by kernel_rfl) (fun _ _ _ h => h) (reg.wanted_none rfl) (hM.ls (by simp)) (fun W hW => by simp [execOp, go_sem, Act.put, hsz, s1, s2, s4, s6]) ?_
  refine reg.e_done (by kernel_rfl) ?_ _
  subst ha0
  clear hsz s1 s2 s4 s6
  go_simp
  repeat' (first | go_values | go_skip | go_guarded | go_step | go_upon | (simp only [Int.not_lt, Int.not_le] at *; go_simp))
  refine bodyPost_ret (ret_2 rfl rfl (ld_var row_greeting hM.at0 rfl) rfl) rfl ⟨{ g with c := c }, vf, ?_, HO.out, fun k' hk => ⟨HKK.out k' hk, .inr ⟨L, hM.own, HE.out⟩⟩, hM.below⟩
  rw [HQ.out, ← HZ2.out, ha]; rfl
 cases hbb : ((s.size : Int) == g.tot)
 case false =>
  refine reg.wp_abs (fun a0 => a0.tmps.size = 111 ∧ (∀ h, a0.tmps[1]'h = .string s) ∧ (∀ h, a0.tmps[2]'h = .pointer (some ⟨zg, 0, none⟩)) ∧ (∀ h, a0.tmps[4]'h = .pointer (some ⟨za, 0, none⟩)) ∧ (∀ h, a0.tmps[6]'h = .int .i64 z)) ⟨rfl, fun _ => rfl, fun _ => rfl, fun _ => rfl, fun _ => rfl⟩ ?_
  rintro a0 ⟨hsz, s1, s2, s4, s6⟩ ha0
  refine reg.wp_region_E (S := fun W => Ls W [(zg, 33, (grl { g with c := c } vf))]) (E := fun _ => false) (by kernel_rfl) ?_
  replace hM := hM.drew
  refine reg.e_take (i := 0) (ag ((grl { g with c := c } vf))) rfl (by kernel_rfl) (by kernel_rfl) (by kernel_rfl) (by kernel_rfl) (fun _ _ _ h => h) (reg.wanted_none rfl) (hM.ls (by simp)) (fun W hW => ex_load rfl row_greeting (by simp [go_sem, Act.put, hsz, s1, s2, s4, s6]) hW.at0 HL.out HC.out) ?_
  refine reg.e_take (i := 1) (.int .i64 z) rfl (by kernel_rfl) (by kernel_rfl) (by kernel_rfl) (by kernel_rfl) (fun _ _ _ h => h) (reg.wanted_none rfl) (hM.ls (by simp)) (fun W hW => by simp [execOp, go_sem, Act.put, hsz, s1, s2, s4, s6]) ?_
  refine reg.e_take (i := 2) (.bool true) rfl (by kernel_rfl) (by kernel_rfl) (by kernel_rfl) (by kernel_rfl) (fun _ _ _ h => h) (reg.wanted_none rfl) (hM.ls (by simp)) (fun W hW => by simp [execOp, go_sem, Act.put, hsz, s1, s2, s4, s6, ha]) ?_
  refine reg.e_take (i := 3) (.bool true) rfl (by kernel_rfl) (by kernel_rfl) (by kernel_rfl) (by kernel_rfl) (fun _ _ _ h => h) (reg.wanted_none rfl) (hM.ls (by simp)) (fun W hW => by simp [execOp, go_sem, Act.put, hsz, s1, s2, s4, s6]) ?_
  refine reg.e_take (i := 4) (.string s) rfl (by kernel_rfl) (by kernel_rfl) (by kernel_rfl) (by kernel_rfl) (fun _ _ _ h => h) (reg.wanted_of 3 true 95 rfl (by kernel_rfl) (by simp [Act.put, hsz])) (hM.ls (by simp)) (fun W hW => by simp [execOp, go_sem, Act.put, hsz, s1, s2, s4, s6]) ?_
  refine reg.e_take (i := 5) (.int .i64 (s.size : Int)) rfl (by kernel_rfl) (by kernel_rfl) (by kernel_rfl) (by kernel_rfl) (fun _ _ _ h => h) (reg.wanted_of 3 true 95 rfl (by kernel_rfl) (by simp [Act.put, hsz])) (hM.ls (by simp)) (fun W hW => by simp [execOp, go_sem, Act.put, hsz, s1, s2, s4, s6]) ?_
  refine reg.e_take (i := 6) (.pointer (some ⟨zg, 4, none⟩)) rfl (by kernel_rfl) (by kernel_rfl) (by kernel_rfl) (by kernel_rfl) (fun _ _ _ h => h) (reg.wanted_of 3 true 95 rfl (by kernel_rfl) (by simp [Act.put, hsz])) (hM.ls (by simp)) (fun W hW => by simp [execOp, go_sem, Act.put, hsz, s1, s2, s4, s6]) ?_
  refine reg.e_take (i := 7) (.int .i64 g.tot) rfl (by kernel_rfl) (by kernel_rfl) (by kernel_rfl) (by kernel_rfl) (fun _ _ _ h => h) (reg.wanted_of 3 true 95 rfl (by kernel_rfl) (by simp [Act.put, hsz])) (hM.ls (by simp)) (fun W hW => ex_get rfl (by simp [go_sem, Act.put, hsz, s1, s2, s4, s6]) hW.at0 HG4.out) ?_
  refine reg.e_take (i := 8) (.bool false) rfl (by kernel_rfl) (by kernel_rfl) (by kernel_rfl) (by kernel_rfl) (fun _ _ _ h => h) (reg.wanted_of 3 true 95 rfl (by kernel_rfl) (by simp [Act.put, hsz])) (hM.ls (by simp)) (fun W hW => by simp [execOp, go_sem, Act.put, hsz, s1, s2, s4, s6, hbb]) ?_
  refine reg.e_take (i := 9) (.bool false) rfl (by kernel_rfl) (by kernel_rfl) (by kernel_rfl) (by kernel_rfl) (fun _ _ _ h => h) (reg.wanted_none rfl) (hM.ls (by simp)) (fun W hW => by simp [execOp, go_sem, Act.put, hsz, s1, s2, s4, s6]) ?_
  refine reg.e_one 10 (by kernel_rfl) rfl ?_
  refine r_fill (i := 10) rfl (reg.wanted_none rfl) rfl row_greeting (by simp [go_sem, Act.put, hsz, s1, s2, s4, s6]) (by simp [go_sem, Act.put, hsz, s1, s2, s4, s6]) hM.at0 HV.out rfl ?_
  intro ru1 rhv rhc
  replace hM := hM.put0 rhc rhv
  clear rhc rhv
  refine ⟨hM.ls (by simp), ?_⟩
  refine reg.e_take (i := 11) (.bool false) rfl (by kernel_rfl) (by kernel_rfl) (by kernel_rfl) (by kernel_rfl) (fun _ _ _ h => h) (reg.wanted_none rfl) (hM.ls (by simp)) (fun W hW => by simp [execOp, go_sem, Act.put, hsz, s1, s2, s4, s6]) ?_
  refine reg.e_done (by kernel_rfl) ?_ _
  subst ha0
  clear hsz s1 s2 s4 s6
  go_simp
  repeat' (first | go_values | go_skip | go_guarded | go_step | go_upon | (simp only [Int.not_lt, Int.not_le] at *; go_simp))
  refine bodyPost_ret (ret_2 rfl rfl (ld_var row_greeting hM.at0 rfl) rfl) rfl ⟨{ g with c := c }, vf, ?_, HO.out, fun k' hk => ⟨HKK.out k' hk, .inr ⟨L, hM.own, HE.out⟩⟩, hM.below⟩
  rw [HQ.out, ← HZ2.out, ha, ← HBZ.out, show decide ((s.size : Int) = g.tot) = false from hbb]; rfl
 refine reg.wp_abs (fun a0 => a0.tmps.size = 111 ∧ (∀ h, a0.tmps[1]'h = .string s) ∧ (∀ h, a0.tmps[2]'h = .pointer (some ⟨zg, 0, none⟩)) ∧ (∀ h, a0.tmps[4]'h = .pointer (some ⟨za, 0, none⟩)) ∧ (∀ h, a0.tmps[6]'h = .int .i64 z)) ⟨rfl, fun _ => rfl, fun _ => rfl, fun _ => rfl, fun _ => rfl⟩ ?_
 rintro a0 ⟨hsz, s1, s2, s4, s6⟩ ha0
 refine reg.wp_region_E (S := fun W => Ls W [(zg, 33, (grl { g with c := c } vf))]) (E := fun _ => false) (by kernel_rfl) ?_
 replace hM := hM.drew
 refine reg.e_take (i := 0) (ag ((grl { g with c := c } vf))) rfl (by kernel_rfl) (by kernel_rfl) (by kernel_rfl) (by kernel_rfl) (fun _ _ _ h => h) (reg.wanted_none rfl) (hM.ls (by simp)) (fun W hW => ex_load rfl row_greeting (by simp [go_sem, Act.put, hsz, s1, s2, s4, s6]) hW.at0 HL.out HC.out) ?_
 refine reg.e_take (i := 1) (.int .i64 z) rfl (by kernel_rfl) (by kernel_rfl) (by kernel_rfl) (by kernel_rfl) (fun _ _ _ h => h) (reg.wanted_none rfl) (hM.ls (by simp)) (fun W hW => by simp [execOp, go_sem, Act.put, hsz, s1, s2, s4, s6]) ?_
 refine reg.e_take (i := 2) (.bool true) rfl (by kernel_rfl) (by kernel_rfl) (by kernel_rfl) (by kernel_rfl) (fun _ _ _ h => h) (reg.wanted_none rfl) (hM.ls (by simp)) (fun W hW => by simp [execOp, go_sem, Act.put, hsz, s1, s2, s4, s6, ha]) ?_
 refine reg.e_take (i := 3) (.bool true) rfl (by kernel_rfl) (by kernel_rfl) (by kernel_rfl) (by kernel_rfl) (fun _ _ _ h => h) (reg.wanted_none rfl) (hM.ls (by simp)) (fun W hW => by simp [execOp, go_sem, Act.put, hsz, s1, s2, s4, s6]) ?_
 refine reg.e_take (i := 4) (.string s) rfl (by kernel_rfl) (by kernel_rfl) (by kernel_rfl) (by kernel_rfl) (fun _ _ _ h => h) (reg.wanted_of 3 true 95 rfl (by kernel_rfl) (by simp [Act.put, hsz])) (hM.ls (by simp)) (fun W hW => by simp [execOp, go_sem, Act.put, hsz, s1, s2, s4, s6]) ?_
 refine reg.e_take (i := 5) (.int .i64 (s.size : Int)) rfl (by kernel_rfl) (by kernel_rfl) (by kernel_rfl) (by kernel_rfl) (fun _ _ _ h => h) (reg.wanted_of 3 true 95 rfl (by kernel_rfl) (by simp [Act.put, hsz])) (hM.ls (by simp)) (fun W hW => by simp [execOp, go_sem, Act.put, hsz, s1, s2, s4, s6]) ?_
 refine reg.e_take (i := 6) (.pointer (some ⟨zg, 4, none⟩)) rfl (by kernel_rfl) (by kernel_rfl) (by kernel_rfl) (by kernel_rfl) (fun _ _ _ h => h) (reg.wanted_of 3 true 95 rfl (by kernel_rfl) (by simp [Act.put, hsz])) (hM.ls (by simp)) (fun W hW => by simp [execOp, go_sem, Act.put, hsz, s1, s2, s4, s6]) ?_
 refine reg.e_take (i := 7) (.int .i64 g.tot) rfl (by kernel_rfl) (by kernel_rfl) (by kernel_rfl) (by kernel_rfl) (fun _ _ _ h => h) (reg.wanted_of 3 true 95 rfl (by kernel_rfl) (by simp [Act.put, hsz])) (hM.ls (by simp)) (fun W hW => ex_get rfl (by simp [go_sem, Act.put, hsz, s1, s2, s4, s6]) hW.at0 HG4.out) ?_
 refine reg.e_take (i := 8) (.bool true) rfl (by kernel_rfl) (by kernel_rfl) (by kernel_rfl) (by kernel_rfl) (fun _ _ _ h => h) (reg.wanted_of 3 true 95 rfl (by kernel_rfl) (by simp [Act.put, hsz])) (hM.ls (by simp)) (fun W hW => by simp [execOp, go_sem, Act.put, hsz, s1, s2, s4, s6, hbb]) ?_
 refine reg.e_take (i := 9) (.bool true) rfl (by kernel_rfl) (by kernel_rfl) (by kernel_rfl) (by kernel_rfl) (fun _ _ _ h => h) (reg.wanted_none rfl) (hM.ls (by simp)) (fun W hW => by simp [execOp, go_sem, Act.put, hsz, s1, s2, s4, s6]) ?_
 refine reg.e_one 10 (by kernel_rfl) rfl ?_
 refine r_fill (i := 10) rfl (reg.wanted_none rfl) rfl row_greeting (by simp [go_sem, Act.put, hsz, s1, s2, s4, s6]) (by simp [go_sem, Act.put, hsz, s1, s2, s4, s6]) hM.at0 HV.out rfl ?_
 intro ru1 rhv rhc
 replace hM := hM.put0 rhc rhv
 clear rhc rhv
 refine ⟨hM.ls (by simp), ?_⟩
 refine reg.e_take (i := 11) (.bool true) rfl (by kernel_rfl) (by kernel_rfl) (by kernel_rfl) (by kernel_rfl) (fun _ _ _ h => h) (reg.wanted_none rfl) (hM.ls (by simp)) (fun W hW => by simp [execOp, go_sem, Act.put, hsz, s1, s2, s4, s6]) ?_
 refine reg.e_done (by kernel_rfl) ?_ _
 subst ha0
 clear hsz s1 s2 s4 s6
 go_simp
 repeat' (first | go_values | go_skip | go_guarded | go_step | go_upon | (simp only [Int.not_lt, Int.not_le] at *; go_simp))
 refine bodyPost_ret (ret_2 rfl rfl (ld_var row_greeting hM.at0 rfl) rfl) rfl ⟨{ g with c := c }, vf, ?_, HO.out, fun k' hk => ⟨HKK.out k' hk, .inr ⟨L, hM.own, HE.out⟩⟩, hM.below⟩
 rw [HQ.out, ← HZ2.out, ha, ← HBZ.out, show decide ((s.size : Int) = g.tot) = true from hbb]; rfl
set_option maxHeartbeats 8000000 in
theorem kept3_any (g : Gr) (uv : Value) (s : ByteArray) (w : World) (h7 : g.st = 3) (hu : uv.oneCell' = true) (hm : s.size ≤ maxLen) : Calls Tryz.prog 44 #[grV g uv, .string s] w (KrP g uv s w) := by
 have HZ : Hid (s.size ≤ maxLen) := hm
 have hM := Mm.nil w
 have HR : Hid (∀ w, Calls Tryz.prog 80 #[.string s] w fun e w' => e = .returned (.tuple #[ag (dvl (rdD s)), .int .i64 (rdE s)]) ∧ Below w.heap.size w w') := fun w => rreadDevice_any s w hm
 have HQ : Hid ((keepV g s).isSome = ((rdE s == 0) && ((g.m0 == (rdD s).m0) && ((rdD s).cf == 1)))) := by
  show _ = _
  rw [k3 h7]
  have : okD s g.m0 = ((rdE s == 0) && ((g.m0 == (rdD s).m0) && ((rdD s).cf == 1))) := by
   unfold okD
   rw [show ((rdD s).m0 == g.m0) = (g.m0 == (rdD s).m0) from Bool.beq_comm]
  rw [← this]
  cases okD s g.m0 <;> rfl
 have HK3 : Hid (∀ k', keepV g s = some k' → { g with d := rdD s } = k') := fun k' hk => by
  rw [k3 h7] at hk
  by_cases q : okD s g.m0 = true
  ·rw [if_pos q] at hk; injection hk
  ·rw [if_neg q] at hk; cases hk
 have H7 : Hid (g.st = 3) := h7
 clear h7 hm
 go_enter Tryz.func44, Tryz.ntmps44
 repeat' (first | (go_big_may; first | (refine v_box rfl rfl rfl ?_; intro u zg hN; replace hM := hM.new hN; clear hN) | (refine v_alloc rfl zer_greeting rfl ?_; intro u za hN; replace hM := hM.new hN; clear hN) | (refine v_get rfl rfl lod_int rfl hM.at1 (v := .int .i64 3) (by rw [← H7.out]; rfl) ?_) | (refine v_get rfl rfl (by first | exact lod_int | exact lod_str | exact lod_fcs | exact lod_err) rfl hM.at1 rfl ?_) | (refine v_load rfl rfl row_greeting rfl hM.at1 (Nat.le_refl _) (cut_all rfl) ?_) | (refine v_fill rfl rfl row_greeting rfl rfl hM.at0 (grl_vs _ hu) rfl ?_; intro u hv hc; replace hM := hM.put0 hc hv; clear hv hc)) | go_values | go_skip | go_guarded | go_step | go_upon | (simp only [Int.not_lt, Int.not_le] at *; go_simp))
 refine (HR.out _).mono ?_
 rintro e u1 ⟨rfl, hb⟩
 replace hM := hM.call hb
 clear hb
 repeat' (first | (go_big_may; first | (refine v_store rfl rfl row_device rfl rfl hM.at1 (dvl_vs _) (of_decide_eq_true rfl) (show _ = grl { g with d := rdD s } uv from rfl) ?_; intro u hv hc; replace hM := hM.put1 hc hv; clear hv hc)) | go_values | go_skip | go_guarded | go_step | go_upon | (simp only [Int.not_lt, Int.not_le] at *; go_simp))
 generalize rdE s = z at *
 generalize rdD s = dd at *
 have HGa : Hid ((grl { g with d := dd } uv)[9]? = some (.int .i64 dd.m0)) := rfl
 have HGb : Hid ((grl { g with d := dd } uv)[16]? = some (.int .i64 dd.cf)) := rfl
 have HL : Hid (0 + 24 ≤ (grl { g with d := dd } uv).length) := Nat.le_refl _
 have HC : Hid (cut (grl { g with d := dd } uv) 0 24 = grl { g with d := dd } uv) := cut_all rfl
 have HV : Hid (Vs (grl { g with d := dd } uv) 24) := grl_vs _ hu
 go_upto_region 14 with (fail)
 cases ha : (z == 0)
 case false =>
  refine reg.wp_abs (fun a0 => a0.tmps.size = 111 ∧ (∀ h, a0.tmps[2]'h = .pointer (some ⟨zg, 0, none⟩)) ∧ (∀ h, a0.tmps[4]'h = .pointer (some ⟨za, 0, none⟩)) ∧ (∀ h, a0.tmps[6]'h = .int .i64 z) ∧ (∀ h, a0.tmps[8]'h = .int .i64 g.m0)) ⟨rfl, fun _ => rfl, fun _ => rfl, fun _ => rfl, fun _ => rfl⟩ ?_
  rintro a0 ⟨hsz, s2, s4, s6, s8⟩ ha0
  refine reg.wp_region_E (S := fun W => Ls W [(zg, 33, (grl { g with d := dd } uv))]) (E := fun _ => false) (by kernel_rfl) ?_
  replace hM := hM.drew
  refine reg.e_take (i := 0) (ag ((grl { g with d := dd } uv))) rfl (by kernel_rfl) (by kernel_rfl) (by kernel_rfl) (by kernel_rfl) (fun _ _ _ h => h) (reg.wanted_none rfl) (hM.ls (by simp)) (fun W hW => ex_load rfl row_greeting (by simp [go_sem, Act.put, hsz, s2, s4, s6, s8]) hW.at0 HL.out HC.out) ?_
  refine reg.e_take (i := 1) (.int .i64 z) rfl (by kernel_rfl) (by kernel_rfl) (by kernel_rfl) (by kernel_rfl) (fun _ _ _ h => h) (reg.wanted_none rfl) (hM.ls (by simp)) (fun W hW => by simp [execOp, go_sem, Act.put, hsz, s2, s4, s6, s8]) ?_
  refine reg.e_take (i := 2) (.bool false) rfl (by kernel_rfl) (by kernel_rfl) (by kernel_rfl) (by kernel_rfl) (fun _ _ _ h => h) (reg.wanted_none rfl) (hM.ls (by simp)) (fun W hW => by simp [execOp, go_sem, Act.put, hsz, s2, s4, s6, s8, ha]) ?_
  refine reg.e_take (i := 3) (.bool false) rfl (by kernel_rfl) (by kernel_rfl) (by kernel_rfl) (by kernel_rfl) (fun _ _ _ h => h) (reg.wanted_none rfl) (hM.ls (by simp)) (fun W hW => by simp [execOp, go_sem, Act.put, hsz, s2, s4, s6, s8]) ?_
  refine reg.e_pass (i := 4) rfl (by kernel_rfl) (by kernel_rfl) (by kernel_rfl) (by kernel_rfl) (fun _ _ _ h => h) (reg.unwanted_of 3 true 53 rfl (by kernel_rfl) (by simp [Act.put, hsz])) (hM.ls (by simp)) ?_
  refine reg.e_pass (i := 5) rfl (by kernel_rfl) (by kernel_rfl) (by kernel_rfl) (by kernel_rfl) (fun _ _ _ h => h) (reg.unwanted_of 3 true 53 rfl (by kernel_rfl) (by simp [Act.put, hsz])) (hM.ls (by simp)) ?_
  refine reg.e_pass (i := 6) rfl (by kernel_rfl) (by kernel_rfl) (by kernel_rfl) (by kernel_rfl) (fun _ _ _ h => h) (reg.unwanted_of 3 true 53 rfl (by kernel_rfl) (by simp [Act.put, hsz])) (hM.ls (by simp)) ?_
  refine reg.e_pass (i := 7) rfl (by kernel_rfl) (by kernel_rfl) (by kernel_rfl) (by kernel_rfl) (fun _ _ _ h => h) (reg.unwanted_of 3 true 53 rfl (by kernel_rfl) (by simp [Act.put, hsz])) (hM.ls (by simp)) ?_
  refine reg.e_pass (i := 8) rfl (by kernel_rfl) (by kernel_rfl) (by kernel_rfl) (by kernel_rfl) (fun _ _ _ h => h) (reg.unwanted_of 3 true 53 rfl (by kernel_rfl) (by simp [Act.put, hsz])) (hM.ls (by simp)) ?_
  refine reg.e_take (i := 9) (.bool false) rfl (by kernel_rfl) (by kernel_rfl) (by kernel_rfl) (by kernel_rfl) (fun _ _ _ h => h) (reg.wanted_none rfl) (hM.ls (by simp)) (fun W hW => by simp [execOp, go_sem, Act.put, hsz, s2, s4, s6, s8]) ?_
  refine reg.e_take (i := 10) (.bool false) rfl (by kernel_rfl) (by kernel_rfl) (by kernel_rfl) (by kernel_rfl) (fun _ _ _ h => h) (reg.wanted_none rfl) (hM.ls (by simp)) (fun W hW => by simp [execOp, go_sem, Act.put, hsz, s2, s4, s6, s8]) ?_
  refine reg.e_pass (i := 11) rfl (by kernel_rfl) (by kernel_rfl) (by kernel_rfl) (by kernel_rfl) (fun _ _ _ h => h) (reg.unwanted_of 10 true 60 rfl (by kernel_rfl) (by simp [Act.put, hsz])) (hM.ls (by simp)) ?_
  refine reg.e_pass (i := 12) rfl (by kernel_rfl) (by kernel_rfl) (by kernel_rfl) (by kernel_rfl) (fun _ _ _ h => h) (reg.unwanted_of 10 true 60 rfl (by kernel_rfl) (by simp [Act.put, hsz])) (hM.ls (by simp)) ?_
  refine reg.e_pass (i := 13) rfl (by kernel_rfl) (by kernel_rfl) (by kernel_rfl) (by kernel_rfl) (fun _ _ _ h => h) (reg.unwanted_of 10 true 60 rfl (by kernel_rfl) (by simp [Act.put, hsz])) (hM.ls (by simp)) ?_
  refine reg.e_pass (i := 14) rfl (by kernel_rfl) (by kernel_rfl) (by kernel_rfl) (by kernel_rfl) (fun _ _ _ h => h) (reg.unwanted_of 10 true 60 rfl (by kernel_rfl) (by simp [Act.put, hsz])) (hM.ls (by simp)) ?_
  refine reg.e_take (i := 15) (.bool false) rfl (by kernel_rfl) (by kernel_rfl) (by kernel_rfl) (by kernel_rfl) (fun _ _ _ h => h) (reg.wanted_none rfl) (hM.ls (by simp)) (fun W hW => by simp [execOp, go_sem, Act.put, hsz, s2, s4, s6, s8]) ?_
  refine reg.e_one 16 (by kernel_rfl) rfl ?_
  refine r_fill (i := 16) rfl (reg.wanted_none rfl) rfl row_greeting (by simp [go_sem, Act.put, hsz, s2, s4, s6, s8]) (by simp [go_sem, Act.put, hsz, s2, s4, s6, s8]) hM.at0 HV.out rfl ?_
  intro ru1 rhv rhc
  replace hM := hM.put0 rhc rhv
  clear rhc rhv
  refine ⟨hM.ls (by simp), ?_⟩
  refine reg.e_take (i := 17) (.bool false) rfl (by kernel_rfl) (by kernel_rfl) (by kernel_rfl) (by kernel_rfl) (fun _ _ _ h => h) (reg.wanted_none rfl) (hM.ls (by simp)) (fun W hW => by simp [execOp, go_sem, Act.put, hsz, s2, s4, s6, s8]) ?_
  refine reg.e_done (by kernel_rfl) ?_ _
  subst ha0
  clear hsz s2 s4 s6 s8
  go_simp
  repeat' (first | go_values | go_skip | go_guarded | go_step | go_upon | (simp only [Int.not_lt, Int.not_le] at *; go_simp))
  refine bodyPost_ret (ret_2 rfl rfl (ld_var row_greeting hM.at0 rfl) rfl) rfl ⟨{ g with d := dd }, uv, ?_, hu, fun k' hk => ⟨HK3.out k' hk, .inl ⟨rfl, rfl⟩⟩, hM.below⟩
  rw [HQ.out, ha]; rfl
 cases hbb : (g.m0 == dd.m0)
 case false =>
  refine reg.wp_abs (fun a0 => a0.tmps.size = 111 ∧ (∀ h, a0.tmps[2]'h = .pointer (some ⟨zg, 0, none⟩)) ∧ (∀ h, a0.tmps[4]'h = .pointer (some ⟨za, 0, none⟩)) ∧ (∀ h, a0.tmps[6]'h = .int .i64 z) ∧ (∀ h, a0.tmps[8]'h = .int .i64 g.m0)) ⟨rfl, fun _ => rfl, fun _ => rfl, fun _ => rfl, fun _ => rfl⟩ ?_
  rintro a0 ⟨hsz, s2, s4, s6, s8⟩ ha0
  refine reg.wp_region_E (S := fun W => Ls W [(zg, 33, (grl { g with d := dd } uv))]) (E := fun _ => false) (by kernel_rfl) ?_
  replace hM := hM.drew
  refine reg.e_take (i := 0) (ag ((grl { g with d := dd } uv))) rfl (by kernel_rfl) (by kernel_rfl) (by kernel_rfl) (by kernel_rfl) (fun _ _ _ h => h) (reg.wanted_none rfl) (hM.ls (by simp)) (fun W hW => ex_load rfl row_greeting (by simp [go_sem, Act.put, hsz, s2, s4, s6, s8]) hW.at0 HL.out HC.out) ?_
  refine reg.e_take (i := 1) (.int .i64 z) rfl (by kernel_rfl) (by kernel_rfl) (by kernel_rfl) (by kernel_rfl) (fun _ _ _ h => h) (reg.wanted_none rfl) (hM.ls (by simp)) (fun W hW => by simp [execOp, go_sem, Act.put, hsz, s2, s4, s6, s8]) ?_
  refine reg.e_take (i := 2) (.bool true) rfl (by kernel_rfl) (by kernel_rfl) (by kernel_rfl) (by kernel_rfl) (fun _ _ _ h => h) (reg.wanted_none rfl) (hM.ls (by simp)) (fun W hW => by simp [execOp, go_sem, Act.put, hsz, s2, s4, s6, s8, ha]) ?_
  refine reg.e_take (i := 3) (.bool true) rfl (by kernel_rfl) (by kernel_rfl) (by kernel_rfl) (by kernel_rfl) (fun _ _ _ h => h) (reg.wanted_none rfl) (hM.ls (by simp)) (fun W hW => by simp [execOp, go_sem, Act.put, hsz, s2, s4, s6, s8]) ?_
  refine reg.e_take (i := 4) (.int .i64 g.m0) rfl (by kernel_rfl) (by kernel_rfl) (by kernel_rfl) (by kernel_rfl) (fun _ _ _ h => h) (reg.wanted_of 3 true 53 rfl (by kernel_rfl) (by simp [Act.put, hsz])) (hM.ls (by simp)) (fun W hW => by simp [execOp, go_sem, Act.put, hsz, s2, s4, s6, s8]) ?_
  refine reg.e_take (i := 5) (.pointer (some ⟨zg, 5, none⟩)) rfl (by kernel_rfl) (by kernel_rfl) (by kernel_rfl) (by kernel_rfl) (fun _ _ _ h => h) (reg.wanted_of 3 true 53 rfl (by kernel_rfl) (by simp [Act.put, hsz])) (hM.ls (by simp)) (fun W hW => by simp [execOp, go_sem, Act.put, hsz, s2, s4, s6, s8]) ?_
  refine reg.e_take (i := 6) (.pointer (some ⟨zg, 9, none⟩)) rfl (by kernel_rfl) (by kernel_rfl) (by kernel_rfl) (by kernel_rfl) (fun _ _ _ h => h) (reg.wanted_of 3 true 53 rfl (by kernel_rfl) (by simp [Act.put, hsz])) (hM.ls (by simp)) (fun W hW => by simp [execOp, go_sem, Act.put, hsz, s2, s4, s6, s8]) ?_
  refine reg.e_take (i := 7) (.int .i64 dd.m0) rfl (by kernel_rfl) (by kernel_rfl) (by kernel_rfl) (by kernel_rfl) (fun _ _ _ h => h) (reg.wanted_of 3 true 53 rfl (by kernel_rfl) (by simp [Act.put, hsz])) (hM.ls (by simp)) (fun W hW => ex_get rfl (by simp [go_sem, Act.put, hsz, s2, s4, s6, s8]) hW.at0 HGa.out) ?_
  refine reg.e_take (i := 8) (.bool false) rfl (by kernel_rfl) (by kernel_rfl) (by kernel_rfl) (by kernel_rfl) (fun _ _ _ h => h) (reg.wanted_of 3 true 53 rfl (by kernel_rfl) (by simp [Act.put, hsz])) (hM.ls (by simp)) (fun W hW => by simp [execOp, go_sem, Act.put, hsz, s2, s4, s6, s8, hbb]) ?_
  refine reg.e_take (i := 9) (.bool false) rfl (by kernel_rfl) (by kernel_rfl) (by kernel_rfl) (by kernel_rfl) (fun _ _ _ h => h) (reg.wanted_none rfl) (hM.ls (by simp)) (fun W hW => by simp [execOp, go_sem, Act.put, hsz, s2, s4, s6, s8]) ?_
  refine reg.e_take (i := 10) (.bool false) rfl (by kernel_rfl) (by kernel_rfl) (by kernel_rfl) (by kernel_rfl) (fun _ _ _ h => h) (reg.wanted_none rfl) (hM.ls (by simp)) (fun W hW => by simp [execOp, go_sem, Act.put, hsz, s2, s4, s6, s8]) ?_
  refine reg.e_pass (i := 11) rfl (by kernel_rfl) (by kernel_rfl) (by kernel_rfl) (by kernel_rfl) (fun _ _ _ h => h) (reg.unwanted_of 10 true 60 rfl (by kernel_rfl) (by simp [Act.put, hsz])) (hM.ls (by simp)) ?_
  refine reg.e_pass (i := 12) rfl (by kernel_rfl) (by kernel_rfl) (by kernel_rfl) (by kernel_rfl) (fun _ _ _ h => h) (reg.unwanted_of 10 true 60 rfl (by kernel_rfl) (by simp [Act.put, hsz])) (hM.ls (by simp)) ?_
  refine reg.e_pass (i := 13) rfl (by kernel_rfl) (by kernel_rfl) (by kernel_rfl) (by kernel_rfl) (fun _ _ _ h => h) (reg.unwanted_of 10 true 60 rfl (by kernel_rfl) (by simp [Act.put, hsz])) (hM.ls (by simp)) ?_
  refine reg.e_pass (i := 14) rfl (by kernel_rfl) (by kernel_rfl) (by kernel_rfl) (by kernel_rfl) (fun _ _ _ h => h) (reg.unwanted_of 10 true 60 rfl (by kernel_rfl) (by simp [Act.put, hsz])) (hM.ls (by simp)) ?_
  refine reg.e_take (i := 15) (.bool false) rfl (by kernel_rfl) (by kernel_rfl) (by kernel_rfl) (by kernel_rfl) (fun _ _ _ h => h) (reg.wanted_none rfl) (hM.ls (by simp)) (fun W hW => by simp [execOp, go_sem, Act.put, hsz, s2, s4, s6, s8]) ?_
  refine reg.e_one 16 (by kernel_rfl) rfl ?_
  refine r_fill (i := 16) rfl (reg.wanted_none rfl) rfl row_greeting (by simp [go_sem, Act.put, hsz, s2, s4, s6, s8]) (by simp [go_sem, Act.put, hsz, s2, s4, s6, s8]) hM.at0 HV.out rfl ?_
  intro ru1 rhv rhc
  replace hM := hM.put0 rhc rhv
  clear rhc rhv
  refine ⟨hM.ls (by simp), ?_⟩
  refine reg.e_take (i := 17) (.bool false) rfl (by kernel_rfl) (by kernel_rfl) (by kernel_rfl) (by kernel_rfl) (fun _ _ _ h => h) (reg.wanted_none rfl) (hM.ls (by simp)) (fun W hW => by simp [execOp, go_sem, Act.put, hsz, s2, s4, s6, s8]) ?_
  refine reg.e_done (by kernel_rfl) ?_ _
  subst ha0
  clear hsz s2 s4 s6 s8
  go_simp
  repeat' (first | go_values | go_skip | go_guarded | go_step | go_upon | (simp only [Int.not_lt, Int.not_le] at *; go_simp))
  refine bodyPost_ret (ret_2 rfl rfl (ld_var row_greeting hM.at0 rfl) rfl) rfl ⟨{ g with d := dd }, uv, ?_, hu, fun k' hk => ⟨HK3.out k' hk, .inl ⟨rfl, rfl⟩⟩, hM.below⟩
  rw [HQ.out, ha, hbb]; rfl
 cases hcc : (dd.cf == 1)
 case false =>
  refine reg.wp_abs (fun a0 => a0.tmps.size = 111 ∧ (∀ h, a0.tmps[2]'h = .pointer (some ⟨zg, 0, none⟩)) ∧ (∀ h, a0.tmps[4]'h = .pointer (some ⟨za, 0, none⟩)) ∧ (∀ h, a0.tmps[6]'h = .int .i64 z) ∧ (∀ h, a0.tmps[8]'h = .int .i64 g.m0)) ⟨rfl, fun _ => rfl, fun _ => rfl, fun _ => rfl, fun _ => rfl⟩ ?_
  rintro a0 ⟨hsz, s2, s4, s6, s8⟩ ha0
  refine reg.wp_region_E (S := fun W => Ls W [(zg, 33, (grl { g with d := dd } uv))]) (E := fun _ => false) (by kernel_rfl) ?_
  replace hM := hM.drew
  refine reg.e_take (i := 0) (ag ((grl { g with d := dd } uv))) rfl (by kernel_rfl) (by kernel_rfl) (by kernel_rfl) (by kernel_rfl) (fun _ _ _ h => h) (reg.wanted_none rfl) (hM.ls (by simp)) (fun W hW => ex_load rfl row_greeting (by simp [go_sem, Act.put, hsz, s2, s4, s6, s8]) hW.at0 HL.out HC.out) ?_
  refine reg.e_take (i := 1) (.int .i64 z) rfl (by kernel_rfl) (by kernel_rfl) (by kernel_rfl) (by kernel_rfl) (fun _ _ _ h => h) (reg.wanted_none rfl) (hM.ls (by simp)) (fun W hW => by simp [execOp, go_sem, Act.put, hsz, s2, s4, s6, s8]) ?_
  refine reg.e_take (i := 2) (.bool true) rfl (by kernel_rfl) (by kernel_rfl) (by kernel_rfl) (by kernel_rfl) (fun _ _ _ h => h) (reg.wanted_none rfl) (hM.ls (by simp)) (fun W hW => by simp [execOp, go_sem, Act.put, hsz, s2, s4, s6, s8, ha]) ?_
  refine reg.e_take (i := 3) (.bool true) rfl (by kernel_rfl) (by kernel_rfl) (by kernel_rfl) (by kernel_rfl) (fun _ _ _ h => h) (reg.wanted_none rfl) (hM.ls (by simp)) (fun W hW => by simp [execOp, go_sem, Act.put, hsz, s2, s4, s6, s8]) ?_
  refine reg.e_take (i := 4) (.int .i64 g.m0) rfl (by kernel_rfl) (by kernel_rfl) (by kernel_rfl) (by kernel_rfl) (fun _ _ _ h => h) (reg.wanted_of 3 true 53 rfl (by kernel_rfl) (by simp [Act.put, hsz])) (hM.ls (by simp)) (fun W hW => by simp [execOp, go_sem, Act.put, hsz, s2, s4, s6, s8]) ?_
  refine reg.e_take (i := 5) (.pointer (some ⟨zg, 5, none⟩)) rfl (by kernel_rfl) (by kernel_rfl) (by kernel_rfl) (by kernel_rfl) (fun _ _ _ h => h) (reg.wanted_of 3 true 53 rfl (by kernel_rfl) (by simp [Act.put, hsz])) (hM.ls (by simp)) (fun W hW => by simp [execOp, go_sem, Act.put, hsz, s2, s4, s6, s8]) ?_
  refine reg.e_take (i := 6) (.pointer (some ⟨zg, 9, none⟩)) rfl (by kernel_rfl) (by kernel_rfl) (by kernel_rfl) (by kernel_rfl) (fun _ _ _ h => h) (reg.wanted_of 3 true 53 rfl (by kernel_rfl) (by simp [Act.put, hsz])) (hM.ls (by simp)) (fun W hW => by simp [execOp, go_sem, Act.put, hsz, s2, s4, s6, s8]) ?_
  refine reg.e_take (i := 7) (.int .i64 dd.m0) rfl (by kernel_rfl) (by kernel_rfl) (by kernel_rfl) (by kernel_rfl) (fun _ _ _ h => h) (reg.wanted_of 3 true 53 rfl (by kernel_rfl) (by simp [Act.put, hsz])) (hM.ls (by simp)) (fun W hW => ex_get rfl (by simp [go_sem, Act.put, hsz, s2, s4, s6, s8]) hW.at0 HGa.out) ?_
  refine reg.e_take (i := 8) (.bool true) rfl (by kernel_rfl) (by kernel_rfl) (by kernel_rfl) (by kernel_rfl) (fun _ _ _ h => h) (reg.wanted_of 3 true 53 rfl (by kernel_rfl) (by simp [Act.put, hsz])) (hM.ls (by simp)) (fun W hW => by simp [execOp, go_sem, Act.put, hsz, s2, s4, s6, s8, hbb]) ?_
  refine reg.e_take (i := 9) (.bool true) rfl (by kernel_rfl) (by kernel_rfl) (by kernel_rfl) (by kernel_rfl) (fun _ _ _ h => h) (reg.wanted_none rfl) (hM.ls (by simp)) (fun W hW => by simp [execOp, go_sem, Act.put, hsz, s2, s4, s6, s8]) ?_
  refine reg.e_take (i := 10) (.bool true) rfl (by kernel_rfl) (by kernel_rfl) (by kernel_rfl) (by kernel_rfl) (fun _ _ _ h => h) (reg.wanted_none rfl) (hM.ls (by simp)) (fun W hW => by simp [execOp, go_sem, Act.put, hsz, s2, s4, s6, s8]) ?_
  refine reg.e_take (i := 11) (.pointer (some ⟨zg, 5, none⟩)) rfl (by kernel_rfl) (by kernel_rfl) (by kernel_rfl) (by kernel_rfl) (fun _ _ _ h => h) (reg.wanted_of 10 true 60 rfl (by kernel_rfl) (by simp [Act.put, hsz])) (hM.ls (by simp)) (fun W hW => by simp [execOp, go_sem, Act.put, hsz, s2, s4, s6, s8]) ?_
  refine reg.e_take (i := 12) (.pointer (some ⟨zg, 16, none⟩)) rfl (by kernel_rfl) (by kernel_rfl) (by kernel_rfl) (by kernel_rfl) (fun _ _ _ h => h) (reg.wanted_of 10 true 60 rfl (by kernel_rfl) (by simp [Act.put, hsz])) (hM.ls (by simp)) (fun W hW => by simp [execOp, go_sem, Act.put, hsz, s2, s4, s6, s8]) ?_
  refine reg.e_take (i := 13) (.int .i64 dd.cf) rfl (by kernel_rfl) (by kernel_rfl) (by kernel_rfl) (by kernel_rfl) (fun _ _ _ h => h) (reg.wanted_of 10 true 60 rfl (by kernel_rfl) (by simp [Act.put, hsz])) (hM.ls (by simp)) (fun W hW => ex_get rfl (by simp [go_sem, Act.put, hsz, s2, s4, s6, s8]) hW.at0 HGb.out) ?_
  refine reg.e_take (i := 14) (.bool false) rfl (by kernel_rfl) (by kernel_rfl) (by kernel_rfl) (by kernel_rfl) (fun _ _ _ h => h) (reg.wanted_of 10 true 60 rfl (by kernel_rfl) (by simp [Act.put, hsz])) (hM.ls (by simp)) (fun W hW => by simp [execOp, go_sem, Act.put, hsz, s2, s4, s6, s8, hcc]) ?_
  refine reg.e_take (i := 15) (.bool false) rfl (by kernel_rfl) (by kernel_rfl) (by kernel_rfl) (by kernel_rfl) (fun _ _ _ h => h) (reg.wanted_none rfl) (hM.ls (by simp)) (fun W hW => by simp [execOp, go_sem, Act.put, hsz, s2, s4, s6, s8]) ?_
  refine reg.e_one 16 (by kernel_rfl) rfl ?_
  refine r_fill (i := 16) rfl (reg.wanted_none rfl) rfl row_greeting (by simp [go_sem, Act.put, hsz, s2, s4, s6, s8]) (by simp [go_sem, Act.put, hsz, s2, s4, s6, s8]) hM.at0 HV.out rfl ?_
  intro ru1 rhv rhc
  replace hM := hM.put0 rhc rhv
  clear rhc rhv
  refine ⟨hM.ls (by simp), ?_⟩
  refine reg.e_take (i := 17) (.bool false) rfl (by kernel_rfl) (by kernel_rfl) (by kernel_rfl) (by kernel_rfl) (fun _ _ _ h => h) (reg.wanted_none rfl) (hM.ls (by simp)) (fun W hW => by simp [execOp, go_sem, Act.put, hsz, s2, s4, s6, s8]) ?_
  refine reg.e_done (by kernel_rfl) ?_ _
  subst ha0
  clear hsz s2 s4 s6 s8
  go_simp
  repeat' (first | go_values | go_skip | go_guarded | go_step | go_upon | (simp only [Int.not_lt, Int.not_le] at *; go_simp))
  refine bodyPost_ret (ret_2 rfl rfl (ld_var row_greeting hM.at0 rfl) rfl) rfl ⟨{ g with d := dd }, uv, ?_, hu, fun k' hk => ⟨HK3.out k' hk, .inl ⟨rfl, rfl⟩⟩, hM.below⟩
  rw [HQ.out, ha, hbb, hcc]; rfl
 refine reg.wp_abs (fun a0 => a0.tmps.size = 111 ∧ (∀ h, a0.tmps[2]'h = .pointer (some ⟨zg, 0, none⟩)) ∧ (∀ h, a0.tmps[4]'h = .pointer (some ⟨za, 0, none⟩)) ∧ (∀ h, a0.tmps[6]'h = .int .i64 z) ∧ (∀ h, a0.tmps[8]'h = .int .i64 g.m0)) ⟨rfl, fun _ => rfl, fun _ => rfl, fun _ => rfl, fun _ => rfl⟩ ?_
 rintro a0 ⟨hsz, s2, s4, s6, s8⟩ ha0
 refine reg.wp_region_E (S := fun W => Ls W [(zg, 33, (grl { g with d := dd } uv))]) (E := fun _ => false) (by kernel_rfl) ?_
 replace hM := hM.drew
 refine reg.e_take (i := 0) (ag ((grl { g with d := dd } uv))) rfl (by kernel_rfl) (by kernel_rfl) (by kernel_rfl) (by kernel_rfl) (fun _ _ _ h => h) (reg.wanted_none rfl) (hM.ls (by simp)) (fun W hW => ex_load rfl row_greeting (by simp [go_sem, Act.put, hsz, s2, s4, s6, s8]) hW.at0 HL.out HC.out) ?_
 refine reg.e_take (i := 1) (.int .i64 z) rfl (by kernel_rfl) (by kernel_rfl) (by kernel_rfl) (by kernel_rfl) (fun _ _ _ h => h) (reg.wanted_none rfl) (hM.ls (by simp)) (fun W hW => by simp [execOp, go_sem, Act.put, hsz, s2, s4, s6, s8]) ?_
 refine reg.e_take (i := 2) (.bool true) rfl (by kernel_rfl) (by kernel_rfl) (by kernel_rfl) (by kernel_rfl) (fun _ _ _ h => h) (reg.wanted_none rfl) (hM.ls (by simp)) (fun W hW => by simp [execOp, go_sem, Act.put, hsz, s2, s4, s6, s8, ha]) ?_
 refine reg.e_take (i := 3) (.bool true) rfl (by kernel_rfl) (by kernel_rfl) (by kernel_rfl) (by kernel_rfl) (fun _ _ _ h => h) (reg.wanted_none rfl) (hM.ls (by simp)) (fun W hW => by simp [execOp, go_sem, Act.put, hsz, s2, s4, s6, s8]) ?_
 refine reg.e_take (i := 4) (.int .i64 g.m0) rfl (by kernel_rfl) (by kernel_rfl) (by kernel_rfl) (by kernel_rfl) (fun _ _ _ h => h) (reg.wanted_of 3 true 53 rfl (by kernel_rfl) (by simp [Act.put, hsz])) (hM.ls (by simp)) (fun W hW => by simp [execOp, go_sem, Act.put, hsz, s2, s4, s6, s8]) ?_
 refine reg.e_take (i := 5) (.pointer (some ⟨zg, 5, none⟩)) rfl (by kernel_rfl) (by kernel_rfl) (by kernel_rfl) (by kernel_rfl) (fun _ _ _ h => h) (reg.wanted_of 3 true 53 rfl (by kernel_rfl) (by simp [Act.put, hsz])) (hM.ls (by simp)) (fun W hW => by simp [execOp, go_sem, Act.put, hsz, s2, s4, s6, s8]) ?_
 refine reg.e_take (i := 6) (.pointer (some ⟨zg, 9, none⟩)) rfl (by kernel_rfl) (by kernel_rfl) (by kernel_rfl) (by kernel_rfl) (fun _ _ _ h => h) (reg.wanted_of 3 true 53 rfl (by kernel_rfl) (by simp [Act.put, hsz])) (hM.ls (by simp)) (fun W hW => by simp [execOp, go_sem, Act.put, hsz, s2, s4, s6, s8]) ?_
 refine reg.e_take (i := 7) (.int .i64 dd.m0) rfl (by kernel_rfl) (by kernel_rfl) (by kernel_rfl) (by kernel_rfl) (fun _ _ _ h => h) (reg.wanted_of 3 true 53 rfl (by kernel_rfl) (by simp [Act.put, hsz])) (hM.ls (by simp)) (fun W hW => ex_get rfl (by simp [go_sem, Act.put, hsz, s2, s4, s6, s8]) hW.at0 HGa.out) ?_
 refine reg.e_take (i := 8) (.bool true) rfl (by kernel_rfl) (by kernel_rfl) (by kernel_rfl) (by kernel_rfl) (fun _ _ _ h => h) (reg.wanted_of 3 true 53 rfl (by kernel_rfl) (by simp [Act.put, hsz])) (hM.ls (by simp)) (fun W hW => by simp [execOp, go_sem, Act.put, hsz, s2, s4, s6, s8, hbb]) ?_
 refine reg.e_take (i := 9) (.bool true) rfl (by kernel_rfl) (by kernel_rfl) (by kernel_rfl) (by kernel_rfl) (fun _ _ _ h => h) (reg.wanted_none rfl) (hM.ls (by simp)) (fun W hW => by simp [execOp, go_sem, Act.put, hsz, s2, s4, s6, s8]) ?_
 refine reg.e_take (i := 10) (.bool true) rfl (by kernel_rfl) (by kernel_rfl) (by kernel_rfl) (by kernel_rfl) (fun _ _ _ h => h) (reg.wanted_none rfl) (hM.ls (by simp)) (fun W hW => by simp [execOp, go_sem, Act.put, hsz, s2, s4, s6, s8]) ?_
 refine reg.e_take (i := 11) (.pointer (some ⟨zg, 5, none⟩)) rfl (by kernel_rfl) (by kernel_rfl) (by kernel_rfl) (by kernel_rfl) (fun _ _ _ h => h) (reg.wanted_of 10 true 60 rfl (by kernel_rfl) (by simp [Act.put, hsz])) (hM.ls (by simp)) (fun W hW => by simp [execOp, go_sem, Act.put, hsz, s2, s4, s6, s8]) ?_
 refine reg.e_take (i := 12) (.pointer (some ⟨zg, 16, none⟩)) rfl (by kernel_rfl) (by kernel_rfl) (by kernel_rfl) (by kernel_rfl) (fun _ _ _ h => h) (reg.wanted_of 10 true 60 rfl (by kernel_rfl) (by simp [Act.put, hsz])) (hM.ls (by simp)) (fun W hW => by simp [execOp, go_sem, Act.put, hsz, s2, s4, s6, s8]) ?_
 refine reg.e_take (i := 13) (.int .i64 dd.cf) rfl (by kernel_rfl) (by kernel_rfl) (by kernel_rfl) (by kernel_rfl) (fun _ _ _ h => h) (reg.wanted_of 10 true 60 rfl (by kernel_rfl) (by simp [Act.put, hsz])) (hM.ls (by simp)) (fun W hW => ex_get rfl (by simp [go_sem, Act.put, hsz, s2, s4, s6, s8]) hW.at0 HGb.out) ?_
 refine reg.e_take (i := 14) (.bool true) rfl (by kernel_rfl) (by kernel_rfl) (by kernel_rfl) (by kernel_rfl) (fun _ _ _ h => h) (reg.wanted_of 10 true 60 rfl (by kernel_rfl) (by simp [Act.put, hsz])) (hM.ls (by simp)) (fun W hW => by simp [execOp, go_sem, Act.put, hsz, s2, s4, s6, s8, hcc]) ?_
 refine reg.e_take (i := 15) (.bool true) rfl (by kernel_rfl) (by kernel_rfl) (by kernel_rfl) (by kernel_rfl) (fun _ _ _ h => h) (reg.wanted_none rfl) (hM.ls (by simp)) (fun W hW => by simp [execOp, go_sem, Act.put, hsz, s2, s4, s6, s8]) ?_
 refine reg.e_one 16 (by kernel_rfl) rfl ?_
 refine r_fill (i := 16) rfl (reg.wanted_none rfl) rfl row_greeting (by simp [go_sem, Act.put, hsz, s2, s4, s6, s8]) (by simp [go_sem, Act.put, hsz, s2, s4, s6, s8]) hM.at0 HV.out rfl ?_
 intro ru1 rhv rhc
 replace hM := hM.put0 rhc rhv
 clear rhc rhv
 refine ⟨hM.ls (by simp), ?_⟩
 refine reg.e_take (i := 17) (.bool true) rfl (by kernel_rfl) (by kernel_rfl) (by kernel_rfl) (by kernel_rfl) (fun _ _ _ h => h) (reg.wanted_none rfl) (hM.ls (by simp)) (fun W hW => by simp [execOp, go_sem, Act.put, hsz, s2, s4, s6, s8]) ?_
 refine reg.e_done (by kernel_rfl) ?_ _
 subst ha0
 clear hsz s2 s4 s6 s8
 go_simp
 repeat' (first | go_values | go_skip | go_guarded | go_step | go_upon | (simp only [Int.not_lt, Int.not_le] at *; go_simp))
 refine bodyPost_ret (ret_2 rfl rfl (ld_var row_greeting hM.at0 rfl) rfl) rfl ⟨{ g with d := dd }, uv, ?_, hu, fun k' hk => ⟨HK3.out k' hk, .inl ⟨rfl, rfl⟩⟩, hM.below⟩
 rw [HQ.out, ha, hbb, hcc]; rfl
theorem kept_any (hrr : descReads.RrAll) (g : Gr) (uv : Value) (s : ByteArray) (w : World) (h : okG g = true) (h8 : ¬ 8 ≤ g.st) (hu : uv.oneCell' = true) (hm : s.size ≤ maxLen) : Calls Tryz.prog 44 #[grV g uv, .string s] w (KrP g uv s w) := by
 rcases st_seven h h8 with q | q | q | q | q | q | q
 ·exact kept1_any g uv s w q hu hm
 ·exact kept2_any g uv s w q hu hm
 ·exact kept3_any g uv s w q hu hm
 ·exact kept4_any g uv s w q hu hm
 ·exact kept5_any hrr g uv s w q hu hm
 ·exact kept6_any g uv s w q hu hm
 ·exact kept7_any g uv s w q hu hm
end Go.Proofs.YtonheibhbilhhaaGreat.greet
namespace Go.Proofs.YtonheibhbilhhaaGreat.greet
open Go Go.RowKit Go.PlainAid Go.Proofs.YtonheibhbilhhaaGreat.lane Go.Proofs.YtonheibhbilhhaaGreat.desc
set_option linter.unusedVariables false
set_option linter.unusedSimpArgs false
set_option maxRecDepth 100000
def TrP (g : Gr) (uv : Value) (s : ByteArray) (e : Int) (w : World) (r : Ending) (w' : World) : Prop :=
 ∃ u' M, r = .returned (.tuple #[grV (tlG g s e) u', .int .i64 (nxE g)]) ∧ Rc w' u' (tlG g s e).c M ∧ Below w.heap.size w w' ∧ ((u' = uv ∧ (tlG g s e).c = g.c) ∨ ∃ M', Oc w w' u' M' ∧ M'.map Prod.fst = (tlG g s e).c.fs)
theorem step_is {g k : Gr} {s : ByteArray} (h : keepV g s = some k) : stepB k = if g.st = 5 ∧ g.d.se = 0 then 7 else g.st + 1 := by
 obtain ⟨h1, _, _, _, _, h2, _⟩ := keep_parts h
 unfold stepB
 rw [h1]
 rcases h2 with h2 | ⟨q, _⟩
 ·rw [h2]
 ·rw [if_neg (by omega), if_neg (by omega)]
set_option maxHeartbeats 16000000 in
theorem told_any (hrr : descReads.RrAll) (g : Gr) (uv : Value) (L : FL) (s : ByteArray) (e : Int) (w : World) (hc : Rc w uv g.c L) (hm : s.size ≤ maxLen) :
  Calls Tryz.prog 19 #[grV g uv, .string s, .int .i64 e] w (TrP g uv s e w) := by
 have HG : Hid (∀ u, Calls Tryz.prog 43 #[grV g uv] u fun e w' => e = .returned (.bool (okG g)) ∧ Below u.heap.size u w') := fun u => rGreeting_any g uv u
 have HK : Hid (okG g = true → ¬ 8 ≤ g.st → ∀ u, Calls Tryz.prog 44 #[grV g uv, .string s] u (KrP g uv s u)) := fun h h8 u => kept_any hrr g uv s u h h8 (rc_one hc) hm
 have HR : Hid (∀ u, Below w.heap.size w u → Rc u uv g.c L) := fun u hu => hc.below hu
 have HU : Hid (uv.oneCell' = true) := rc_one hc
 have hM := Mo.nil w
 clear hrr hc hm
 cases ho : okG g
 case false =>
  have HE : Hid (nxE g = 1) := by show _ = _; unfold nxE; rw [if_pos ho]
  have HT : Hid (tlG g s e = g) := tl_no (by rw [HE.out]; omega)
  rw [ho] at HG
  clear ho HK
  go_enter Tryz.func19, Tryz.ntmps19
  repeat' (first | (go_big_may; first | (refine v_box rfl rfl rfl ?_; intro u zg hN; replace hM := hM.new hN; clear hN) | (refine v_alloc rfl zer_greeting rfl ?_; intro u za hN; replace hM := hM.new hN; clear hN) | (refine v_load rfl rfl row_greeting rfl hM.at1 (Nat.le_refl _) (cut_all rfl) ?_)) | go_values | go_skip | go_guarded | go_step | go_upon | (simp only [Int.not_lt, Int.not_le] at *; go_simp))
  refine (HG.out _).mono ?_
  rintro e1 u1 ⟨rfl, hb⟩
  replace hM := hM.call hb
  clear hb
  repeat' (first | (go_big_may; first | (refine v_load rfl rfl row_greeting rfl hM.at1 (Nat.le_refl _) (cut_all rfl) ?_) | (refine v_fill rfl rfl row_greeting rfl rfl hM.at0 (grl_vs _ HU.out) rfl ?_; intro u hv hc; replace hM := hM.put0 hc hv; clear hv hc)) | go_values | go_skip | go_guarded | go_step | go_upon | (simp only [Int.not_lt, Int.not_le] at *; go_simp))
  exact bodyPost_ret (ret_2 rfl rfl (ld_var row_greeting hM.at0 rfl) rfl) rfl ⟨uv, L, by rw [HT.out, HE.out]; rfl, by rw [HT.out]; exact HR.out _ hM.below, hM.below, .inl ⟨rfl, by rw [HT.out]⟩⟩
 have hg := (okG_iff g).1 ho
 rw [ho] at HG
 by_cases h8 : 8 ≤ g.st
 ·have HE : Hid (nxE g = 12) := by show _ = _; unfold nxE; rw [if_neg (by rw [ho]; decide), if_pos h8]
  have HT : Hid (tlG g s e = g) := tl_no (by rw [HE.out]; omega)
  have e1 : decide (7 < g.st) = true := by simp; omega
  clear ho HK hg h8
  go_enter Tryz.func19, Tryz.ntmps19
  repeat' (first | (go_big_may; first | (refine v_box rfl rfl rfl ?_; intro u zg hN; replace hM := hM.new hN; clear hN) | (refine v_alloc rfl zer_greeting rfl ?_; intro u za hN; replace hM := hM.new hN; clear hN) | (refine v_load rfl rfl row_greeting rfl hM.at1 (Nat.le_refl _) (cut_all rfl) ?_)) | go_values | go_skip | go_guarded | go_step | go_upon | (simp only [Int.not_lt, Int.not_le] at *; go_simp))
  refine (HG.out _).mono ?_
  rintro e1 u1 ⟨rfl, hb⟩
  replace hM := hM.call hb
  clear hb
  repeat' (first | (go_big_may; first | (refine v_load rfl rfl row_greeting rfl hM.at1 (Nat.le_refl _) (cut_all rfl) ?_) | (refine v_fill rfl rfl row_greeting rfl rfl hM.at0 (grl_vs _ HU.out) rfl ?_; intro u hv hc; replace hM := hM.put0 hc hv; clear hv hc) | (refine v_get rfl rfl (by first | exact lod_int | exact lod_str | exact lod_fcs | exact lod_err) rfl hM.at1 rfl ?_)) | go_values | go_skip | go_guarded | go_step | go_upon | (simp only [Int.not_lt, Int.not_le] at *; go_simp))
  exact bodyPost_ret (ret_2 rfl rfl (ld_var row_greeting hM.at0 rfl) rfl) rfl ⟨uv, L, by rw [HT.out, HE.out]; rfl, by rw [HT.out]; exact HR.out _ hM.below, hM.below, .inl ⟨rfl, by rw [HT.out]⟩⟩
 have HE : Hid (nxE g = 0) := nx_ok.2 ⟨ho, h8⟩
 have HKK : Hid (∀ u, Calls Tryz.prog 44 #[grV g uv, .string s] u (KrP g uv s u)) := HK.out ho h8
 have e7 : decide (7 < g.st) = false := by simp; omega
 have hwr : IntKind.i64.wrap (g.st + 1) = g.st + 1 := by rw [IntKind.wrap_i64]; omega
 have hwt : IntKind.i64.wrap (g.tr + 1) = g.tr + 1 := by rw [IntKind.wrap_i64]; omega
 have htr : g.tr = 2 ∨ g.tr < 2 := by omega
 clear ho HK hg h8
 go_enter Tryz.func19, Tryz.ntmps19
 repeat' (first | (go_big_may; first | (refine v_box rfl rfl rfl ?_; intro u zg hN; replace hM := hM.new hN; clear hN) | (refine v_alloc rfl zer_greeting rfl ?_; intro u za hN; replace hM := hM.new hN; clear hN) | (refine v_load rfl rfl row_greeting rfl hM.at1 (Nat.le_refl _) (cut_all rfl) ?_)) | go_values | go_skip | go_guarded | go_step | go_upon | (simp only [Int.not_lt, Int.not_le] at *; go_simp))
 refine (HG.out _).mono ?_
 rintro e1 u1 ⟨rfl, hb⟩
 replace hM := hM.call hb
 clear hb HG
 repeat' (first | (go_big_may; first | (refine v_get rfl rfl (by first | exact lod_int | exact lod_str | exact lod_fcs | exact lod_err) rfl hM.at1 rfl ?_) | (refine v_load rfl rfl row_greeting rfl hM.at1 (Nat.le_refl _) (cut_all rfl) ?_)) | go_values | go_skip | go_guarded | go_step | go_upon | (simp only [Int.not_lt, Int.not_le] at *; go_simp))
 refine (HKK.out _).mono ?_
 rintro e2 u2 ⟨k, u', rfl, hu', hk, hb⟩
 have HU' : Hid (u'.oneCell' = true) := hu'
 clear hu' HKK
 by_cases hq : e = 0 ∧ (keepV g s).isSome = true
 case neg =>
  obtain ⟨z, hz, hT⟩ : ∃ z, z = (if e = 0 then 4 else e) ∧ tlG g s e = missG g z := by
   refine ⟨_, rfl, ?_⟩
   by_cases he : e = 0
   ·subst he
    rw [if_pos rfl]
    cases hv : keepV g s with
    | none => exact tl_none HE.out hv
    | some x => exact absurd ⟨rfl, by rw [hv]; rfl⟩ hq
   ·rw [if_neg he]; exact tl_miss HE.out he
  have HT : Hid (tlG g s e = missG g z) := hT
  have hsel : ((keepV g s).isSome = true ∧ (e == 0) = false) ∨ (keepV g s).isSome = false := by
   cases hv : (keepV g s).isSome with
   | true => left; exact ⟨rfl, by simp; intro q; exact hq ⟨q, hv⟩⟩
   | false => right; rfl
  replace hM := hM.call hb
  clear hk hb hT hq
  rcases htr with h2 | h2
  ·have HM : Hid (missG g z = { g with tr := 0, st := 9, er := z }) := by show _ = _; unfold missG; rw [if_pos h2]
   have e2 : decide (g.tr < 2) = false := by simp; omega
   clear h2
   have hez : (e == 0) = true ∧ z = 4 ∨ (e == 0) = false ∧ z = e := by
    by_cases he : e = 0
    ·left; exact ⟨by simpa using he, by rw [hz, if_pos he]⟩
    ·right; exact ⟨by simpa using he, by rw [hz, if_neg he]⟩
   clear hz
   rcases hez with ⟨e3, hze⟩ | ⟨e3, hze⟩
   all_goals
    rcases hsel with ⟨e4, e5⟩ | e4
    all_goals
     first
     | (rw [e3] at e5; cases e5; done)
     | skip
    all_goals
     have HZE : Hid (z = _) := hze
     clear hze
     rw [e4]
     repeat' (first | (go_big_may; first | (refine v_alloc rfl zer_greeting rfl ?_; intro u zh hN; replace hM := hM.new hN; clear hN) | (refine v_fill rfl rfl row_greeting rfl rfl hM.at0 (grl_vs _ HU'.out) rfl ?_; intro u hv hc; replace hM := hM.put0 hc hv; clear hv hc) | (refine v_get rfl rfl (by first | exact lod_int | exact lod_str | exact lod_fcs | exact lod_err) rfl hM.at2 rfl ?_) | (refine v_putx rfl rfl (one_int 9) rfl rfl hM.at2 (of_decide_eq_true rfl) (show _ = grl { g with st := 9 } uv from rfl) ?_; intro u hv hc; replace hM := hM.put2 hc hv; clear hv hc) | (refine v_putx rfl rfl (one_int 0) rfl rfl hM.at2 (of_decide_eq_true rfl) (show _ = grl { g with tr := 0, st := 9 } uv from rfl) ?_; intro u hv hc; replace hM := hM.put2 hc hv; clear hv hc) | (refine v_putx rfl rfl (one_err e) rfl rfl hM.at2 (of_decide_eq_true rfl) (show _ = grl { g with tr := 0, st := 9, er := e } uv from rfl) ?_; intro u hv hc; replace hM := hM.put2 hc hv; clear hv hc) | (refine v_putx rfl rfl (one_err 4) rfl rfl hM.at2 (of_decide_eq_true rfl) (show _ = grl { g with tr := 0, st := 9, er := 4 } uv from rfl) ?_; intro u hv hc; replace hM := hM.put2 hc hv; clear hv hc) | (refine v_load rfl rfl row_greeting rfl hM.at2 (Nat.le_refl _) (cut_all rfl) ?_) | (refine v_fill rfl rfl row_greeting rfl rfl hM.at1 (grl_vs _ HU.out) rfl ?_; intro u hv hc; replace hM := hM.put1 hc hv; clear hv hc)) | go_values | go_skip | go_guarded | go_step | go_upon | (simp only [Int.not_lt, Int.not_le] at *; go_simp))
     exact bodyPost_ret (ret_2 rfl rfl (ld_var row_greeting hM.at1 rfl) rfl) rfl ⟨uv, L, by rw [HT.out, HE.out, HM.out, HZE.out]; rfl, by rw [HT.out, HM.out]; exact HR.out _ hM.below, hM.below, .inl ⟨rfl, by rw [HT.out, miss_c]⟩⟩
  ·have HM : Hid (missG g z = { g with tr := g.tr + 1 }) := by show _ = _; unfold missG; rw [if_neg (by omega)]
   have e2 : decide (g.tr < 2) = true := by simpa using h2
   clear h2 hz
   rcases hsel with ⟨e4, e5⟩ | e4
   all_goals
    rw [e4]
    repeat' (first | (go_big_may; first | (refine v_alloc rfl zer_greeting rfl ?_; intro u zh hN; replace hM := hM.new hN; clear hN) | (refine v_fill rfl rfl row_greeting rfl rfl hM.at0 (grl_vs _ HU'.out) rfl ?_; intro u hv hc; replace hM := hM.put0 hc hv; clear hv hc) | (refine v_get rfl rfl (by first | exact lod_int | exact lod_str | exact lod_fcs | exact lod_err) rfl hM.at2 rfl ?_) | (refine v_putx rfl rfl (one_int (g.tr + 1)) rfl rfl hM.at2 (of_decide_eq_true rfl) (show _ = grl { g with tr := g.tr + 1 } uv from rfl) ?_; intro u hv hc; replace hM := hM.put2 hc hv; clear hv hc) | (refine v_load rfl rfl row_greeting rfl hM.at2 (Nat.le_refl _) (cut_all rfl) ?_) | (refine v_fill rfl rfl row_greeting rfl rfl hM.at1 (grl_vs _ HU.out) rfl ?_; intro u hv hc; replace hM := hM.put1 hc hv; clear hv hc)) | go_values | go_skip | go_guarded | go_step | go_upon | (simp only [Int.not_lt, Int.not_le] at *; go_simp))
    exact bodyPost_ret (ret_2 rfl rfl (ld_var row_greeting hM.at1 rfl) rfl) rfl ⟨uv, L, by rw [HT.out, HE.out, HM.out]; rfl, by rw [HT.out, HM.out]; exact HR.out _ hM.below, hM.below, .inl ⟨rfl, by rw [HT.out, miss_c]⟩⟩
 obtain ⟨rfl, hv⟩ := hq
 rw [hv]
 obtain ⟨k', hk'⟩ := Option.isSome_iff_exists.1 hv
 obtain ⟨rfl, hcase⟩ := hk k' hk'
 have HT : Hid (tlG g s 0 = { k with tr := 0, st := if g.st = 5 ∧ g.d.se = 0 then 7 else g.st + 1 }) := by show _ = _; rw [← step_is hk']; exact tl_some HE.out hk'
 have hX : ∃ vf M, Mo w u2 [(za, 33, grl noGr nilS), (zg, 33, grl g uv)] vf M ∧ ((u' = uv ∧ k.c = g.c) ∨ (u' = vf ∧ M.map Prod.fst = k.c.fs)) := by
  rcases hcase with h3 | ⟨M, h3, h4⟩
  ·exact ⟨nilS, [], hM.call hb, .inl h3⟩
  ·exact ⟨u', M, hM.take hb h3, .inr ⟨rfl, h4⟩⟩
 obtain ⟨vf, M, hM2, h3⟩ := hX
 have H3 : Hid ((u' = uv ∧ k.c = g.c) ∨ (u' = vf ∧ M.map Prod.fst = k.c.fs)) := h3
 have H4 : Hid (∀ u B, Mo w u B vf M → (u' = uv ∧ k.c = g.c) ∨ ∃ M', Oc w u u' M' ∧ M'.map Prod.fst = k.c.fs) := fun u B hB => by
  rcases H3.out with h5 | ⟨h5, h6⟩
  ·exact .inl h5
  ·exact .inr ⟨M, by rw [h5]; exact hB.own, h6⟩
 have HF : Hid (∀ u B, Mo w u B vf M → ∃ M', Rc u u' k.c M') := fun u B hB => by
  rcases H3.out with ⟨rfl, h5⟩ | ⟨rfl, h5⟩
  ·exact ⟨L, by rw [h5]; exact HR.out u hB.below⟩
  ·exact ⟨M, hB.own.rc h5⟩
 clear hM
 have hM := hM2
 clear hM2 hk hk' hcase hb h3 hv htr hwt
 by_cases h5 : g.st = 5 ∧ g.d.se = 0
 ·have HTT : Hid (tlG g s 0 = { k with tr := 0, st := 7 }) := by show _ = _; rw [HT.out, if_pos h5]
  have e5 : (g.st == 5) = true := by simpa using h5.1
  have e6 : (g.d.se == 0) = true := by simpa using h5.2
  clear h5
  repeat' (first | (go_big_may; first | (refine v_alloc rfl zer_greeting rfl ?_; intro u zh hN; replace hM := hM.new hN; clear hN) | (refine v_fill rfl rfl row_greeting rfl rfl hM.at0 (grl_vs _ HU'.out) rfl ?_; intro u hv hc; replace hM := hM.put0 hc hv; clear hv hc) | (refine v_get rfl rfl (by first | exact lod_int | exact lod_str | exact lod_fcs | exact lod_err) rfl hM.at2 rfl ?_) | (refine v_putx rfl rfl (one_int (g.st + 1)) rfl rfl hM.at0 (of_decide_eq_true rfl) (show _ = grl { k with st := g.st + 1 } u' from rfl) ?_; intro u hv hc; replace hM := hM.put0 hc hv; clear hv hc) | (refine v_putx rfl rfl (one_int 0) rfl rfl hM.at0 (of_decide_eq_true rfl) (show _ = grl { k with tr := 0, st := g.st + 1 } u' from rfl) ?_; intro u hv hc; replace hM := hM.put0 hc hv; clear hv hc) | (refine v_putx rfl rfl (one_int 7) rfl rfl hM.at0 (of_decide_eq_true rfl) (show _ = grl { k with tr := 0, st := 7 } u' from rfl) ?_; intro u hv hc; replace hM := hM.put0 hc hv; clear hv hc) | (refine v_load rfl rfl row_greeting rfl hM.at0 (Nat.le_refl _) (cut_all rfl) ?_) | (refine v_fill rfl rfl row_greeting rfl rfl hM.at1 (grl_vs _ HU'.out) rfl ?_; intro u hv hc; replace hM := hM.put1 hc hv; clear hv hc)) | go_values | go_skip | go_guarded | go_step | go_upon | (simp only [Int.not_lt, Int.not_le] at *; go_simp))
  obtain ⟨M', hM'⟩ := HF.out _ _ hM
  exact bodyPost_ret (ret_2 rfl rfl (ld_var row_greeting hM.at1 rfl) rfl) rfl ⟨u', M', by rw [HTT.out, HE.out]; rfl, by rw [HTT.out]; exact hM', hM.below, by rw [HTT.out]; exact H4.out _ _ hM⟩
 ·have HTT : Hid (tlG g s 0 = { k with tr := 0, st := g.st + 1 }) := by show _ = _; rw [HT.out, if_neg h5]
  have h56 : (g.st == 5) = false ∨ (g.st == 5) = true ∧ (g.d.se == 0) = false := by
   by_cases q : g.st = 5
   ·right; exact ⟨by simpa using q, by simp; intro q2; exact h5 ⟨q, q2⟩⟩
   ·left; simpa using q
  clear h5
  rcases h56 with e5 | ⟨e5, e6⟩
  all_goals
   repeat' (first | (go_big_may; first | (refine v_alloc rfl zer_greeting rfl ?_; intro u zh hN; replace hM := hM.new hN; clear hN) | (refine v_fill rfl rfl row_greeting rfl rfl hM.at0 (grl_vs _ HU'.out) rfl ?_; intro u hv hc; replace hM := hM.put0 hc hv; clear hv hc) | (refine v_get rfl rfl (by first | exact lod_int | exact lod_str | exact lod_fcs | exact lod_err) rfl hM.at2 rfl ?_) | (refine v_putx rfl rfl (one_int (g.st + 1)) rfl rfl hM.at0 (of_decide_eq_true rfl) (show _ = grl { k with st := g.st + 1 } u' from rfl) ?_; intro u hv hc; replace hM := hM.put0 hc hv; clear hv hc) | (refine v_putx rfl rfl (one_int 0) rfl rfl hM.at0 (of_decide_eq_true rfl) (show _ = grl { k with tr := 0, st := g.st + 1 } u' from rfl) ?_; intro u hv hc; replace hM := hM.put0 hc hv; clear hv hc) | (refine v_load rfl rfl row_greeting rfl hM.at0 (Nat.le_refl _) (cut_all rfl) ?_) | (refine v_fill rfl rfl row_greeting rfl rfl hM.at1 (grl_vs _ HU'.out) rfl ?_; intro u hv hc; replace hM := hM.put1 hc hv; clear hv hc)) | go_values | go_skip | go_guarded | go_step | go_upon | (simp only [Int.not_lt, Int.not_le] at *; go_simp))
   obtain ⟨M', hM'⟩ := HF.out _ _ hM
   exact bodyPost_ret (ret_2 rfl rfl (ld_var row_greeting hM.at1 rfl) rfl) rfl ⟨u', M', by rw [HTT.out, HE.out]; rfl, by rw [HTT.out]; exact hM', hM.below, by rw [HTT.out]; exact H4.out _ _ hM⟩
end Go.Proofs.YtonheibhbilhhaaGreat.greet
