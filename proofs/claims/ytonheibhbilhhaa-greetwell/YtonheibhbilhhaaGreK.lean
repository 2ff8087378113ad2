/- greet: what is kept of an answer; an answer that is missed; the step behind. -/
import Derived.Test.YtonheibhbilhhaaGreD
namespace Go.Proofs.Ytonheibhbilhhaa.greet
open Go Go.RowKit Go.PlainAid Go.Proofs.Ytonheibhbilhhaa.lane Go.Proofs.Ytonheibhbilhhaa.desc
set_option linter.unusedVariables false
set_option linter.unusedSimpArgs false
set_option maxRecDepth 100000

section
variable {g : Gr} {s : ByteArray}
theorem k1 (h : g.st = 1) : keepV g s = if hdD s = true then some { g with m0 := bt s 7 } else none := by unfold keepV; rw [if_pos h]
theorem k3 (h : g.st = 3) : keepV g s = if okD s g.m0 = true then some { g with d := rdD s } else none := by unfold keepV; rw [if_neg (by omega), if_pos h]
theorem k4 (h : g.st = 4) : keepV g s = if hdC s = true then some { g with tot := w2 s } else none := by unfold keepV; rw [if_neg (by omega), if_neg (by omega), if_pos h]
theorem k5 (h : g.st = 5) : keepV g s = match rcO s with | some c => if (s.size : Int) = g.tot then some { g with c := c } else none | none => none := by unfold keepV; rw [if_neg (by omega), if_neg (by omega), if_neg (by omega), if_pos h]; rfl
theorem k6 (h : g.st = 6) : keepV g s = if rdC s = 0 then some { g with sr := rdT s } else none := by unfold keepV; rw [if_neg (by omega), if_neg (by omega), if_neg (by omega), if_neg (by omega), if_pos h]
theorem k27 (h : g.st = 2 ∨ g.st = 7) : keepV g s = if s.size = 0 then some g else none := by unfold keepV; rw [if_neg (by omega), if_neg (by omega), if_neg (by omega), if_neg (by omega), if_neg (by omega)]
theorem k5_some (h : g.st = 5) : (keepV g s).isSome = rgB s g.tot := by
  rw [k5 h]
  unfold rgB
  cases rcO s with
  | none => rfl
  | some c =>
    show (if (s.size : Int) = g.tot then some { g with c := c } else none).isSome = (true && decide ((s.size : Int) = g.tot))
    rw [Bool.true_and]
    by_cases q : (s.size : Int) = g.tot
    · rw [if_pos q, decide_eq_true q]; rfl
    · rw [if_neg q, decide_eq_false q]; rfl
end
theorem v_putx {ops : Array Oper} {rest : List Oper} {o : Oper} {a : Act} {w : World} {Q : Exit → Act → World → Prop} (hgd : Region.wanted o (yielded ops a.tmps) = true) {t : TypeId} {x y : Operand} (ho : o.op = .store t x y) {v : Value} (ht : One t v)
    {B j : Nat} {T : TypeId} {l l' : List Value} (hx : a.eval x = .pointer (some ⟨B, j, none⟩)) (hy : a.eval y = v) (hB : w.heap[B]? = some (bx T l)) (hle : j < l.length) (hl : l.set j v = l')
    (h : ∀ u, u.heap[B]? = some (bx T l') → Chg B w u → wpList Try.prog ops Q rest (a.put o.dst undef) u) : wpList Try.prog ops Q (o :: rest) a w := by
  subst hl
  exact v_put hgd ho ht hx hy hB hle h
set_option maxHeartbeats 2000000 in
theorem missed_any (g : Gr) (uv : Value) (e : Int) (w : World) (h : 0 ≤ g.tr ∧ g.tr ≤ 2) (hu : uv.oneCell' = true) : Calls Try.prog 28 #[grV g uv, .int .i64 e] w fun r w' => r = .returned (grV (missG g e) uv) ∧ Below w.heap.size w w' := by
  have h3 : g.tr = 0 ∨ g.tr = 1 ∨ g.tr = 2 := by omega
  have hM := Mm.nil w
  rcases h3 with h3 | h3 | h3
  · have hg : missG g e = { g with tr := 1 } := by unfold missG; rw [if_neg (by omega), h3]; rfl
    rw [hg]
    have H3 : Hid (g.tr = 0) := h3
    clear h3 hg h
    go_enter Try.func28, Try.ntmps28
    repeat' (first | (go_big_may; first | (refine v_box rfl rfl rfl ?_; intro u zg hN; replace hM := hM.new hN; clear hN) | (refine v_alloc rfl zer_greeting rfl ?_; intro u za hN; replace hM := hM.new hN; clear hN) | (refine v_get rfl rfl lod_int rfl hM.at1 (v := .int .i64 0) (by rw [← H3.out]; rfl) ?_) | (refine v_putx rfl rfl (one_int 1) rfl rfl hM.at1 (of_decide_eq_true rfl) (show _ = grl { g with tr := 1 } uv from rfl) ?_; intro u hv hc; replace hM := hM.put1 hc hv; clear hv hc) | (refine v_get rfl rfl (by first | exact lod_int | exact lod_str | exact lod_fcs | exact lod_err) rfl hM.at1 rfl ?_) | (refine v_load rfl rfl row_greeting rfl hM.at1 (Nat.le_refl _) (cut_all rfl) ?_) | (refine v_fill rfl rfl row_greeting rfl rfl hM.at0 (grl_vs _ hu) rfl ?_; intro u hv hc; replace hM := hM.put0 hc hv; clear hv hc)) | go_values | go_skip | go_guarded | go_step | go_upon | (simp only [Int.not_lt, Int.not_le] at *; go_simp))
    exact bodyPost_ret (ret_1 rfl rfl (ld_var row_greeting hM.at0 rfl)) rfl ⟨rfl, hM.below⟩
  · have hg : missG g e = { g with tr := 2 } := by unfold missG; rw [if_neg (by omega), h3]; rfl
    rw [hg]
    have H3 : Hid (g.tr = 1) := h3
    clear h3 hg h
    go_enter Try.func28, Try.ntmps28
    repeat' (first | (go_big_may; first | (refine v_box rfl rfl rfl ?_; intro u zg hN; replace hM := hM.new hN; clear hN) | (refine v_alloc rfl zer_greeting rfl ?_; intro u za hN; replace hM := hM.new hN; clear hN) | (refine v_get rfl rfl lod_int rfl hM.at1 (v := .int .i64 1) (by rw [← H3.out]; rfl) ?_) | (refine v_putx rfl rfl (one_int 2) rfl rfl hM.at1 (of_decide_eq_true rfl) (show _ = grl { g with tr := 2 } uv from rfl) ?_; intro u hv hc; replace hM := hM.put1 hc hv; clear hv hc) | (refine v_get rfl rfl (by first | exact lod_int | exact lod_str | exact lod_fcs | exact lod_err) rfl hM.at1 rfl ?_) | (refine v_load rfl rfl row_greeting rfl hM.at1 (Nat.le_refl _) (cut_all rfl) ?_) | (refine v_fill rfl rfl row_greeting rfl rfl hM.at0 (grl_vs _ hu) rfl ?_; intro u hv hc; replace hM := hM.put0 hc hv; clear hv hc)) | go_values | go_skip | go_guarded | go_step | go_upon | (simp only [Int.not_lt, Int.not_le] at *; go_simp))
    exact bodyPost_ret (ret_1 rfl rfl (ld_var row_greeting hM.at0 rfl)) rfl ⟨rfl, hM.below⟩
  · have hg : missG g e = { g with tr := 0, st := 9, er := e } := by unfold missG; rw [if_pos h3]
    rw [hg]
    have H3 : Hid (g.tr = 2) := h3
    clear h3 hg h
    go_enter Try.func28, Try.ntmps28
    repeat' (first | (go_big_may; first | (refine v_box rfl rfl rfl ?_; intro u zg hN; replace hM := hM.new hN; clear hN) | (refine v_alloc rfl zer_greeting rfl ?_; intro u za hN; replace hM := hM.new hN; clear hN) | (refine v_get rfl rfl lod_int rfl hM.at1 (v := .int .i64 2) (by rw [← H3.out]; rfl) ?_) | (refine v_putx rfl rfl (one_int 3) rfl rfl hM.at1 (of_decide_eq_true rfl) (show _ = grl { g with tr := 3 } uv from rfl) ?_; intro u hv hc; replace hM := hM.put1 hc hv; clear hv hc) | (refine v_get rfl rfl (by first | exact lod_int | exact lod_str | exact lod_fcs | exact lod_err) rfl hM.at1 rfl ?_) | (refine v_putx rfl rfl (one_int 0) rfl rfl hM.at1 (of_decide_eq_true rfl) (show _ = grl { g with tr := 0 } uv from rfl) ?_; intro u hv hc; replace hM := hM.put1 hc hv; clear hv hc) | (refine v_putx rfl rfl (one_int 9) rfl rfl hM.at1 (of_decide_eq_true rfl) (show _ = grl { g with tr := 0, st := 9 } uv from rfl) ?_; intro u hv hc; replace hM := hM.put1 hc hv; clear hv hc) | (refine v_putx rfl rfl (one_err e) rfl rfl hM.at1 (of_decide_eq_true rfl) (show _ = grl { g with tr := 0, st := 9, er := e } uv from rfl) ?_; intro u hv hc; replace hM := hM.put1 hc hv; clear hv hc) | (refine v_load rfl rfl row_greeting rfl hM.at1 (Nat.le_refl _) (cut_all rfl) ?_) | (refine v_fill rfl rfl row_greeting rfl rfl hM.at0 (grl_vs _ hu) rfl ?_; intro u hv hc; replace hM := hM.put0 hc hv; clear hv hc)) | go_values | go_skip | go_guarded | go_step | go_upon | (simp only [Int.not_lt, Int.not_le] at *; go_simp))
    exact bodyPost_ret (ret_1 rfl rfl (ld_var row_greeting hM.at0 rfl)) rfl ⟨rfl, hM.below⟩
set_option maxHeartbeats 2000000 in
theorem stepBehind_any (g : Gr) (u : Value) (w : World) (h : 1 ≤ g.st ∧ g.st ≤ 9) : Calls Try.prog 30 #[grV g u] w fun r w' => r = .returned (.int .i64 (stepB g)) ∧ Below w.heap.size w w' := by
  have hwr : IntKind.i64.wrap (g.st + 1) = g.st + 1 := by rw [IntKind.wrap_i64]; omega
  have hM := Mm.nil w
  unfold stepB
  by_cases h5 : g.st = 5
  · by_cases h0 : g.d.se = 0
    · rw [if_pos ⟨h5, h0⟩]
      have e1 : (g.st == 5) = true := by simpa using h5
      have e2 : (g.d.se == 0) = true := by simpa using h0
      clear h5 h0 h
      go_enter Try.func30, Try.ntmps30
      repeat' (first | (go_big_may; first | (refine v_box rfl rfl rfl ?_; intro u zg hN; replace hM := hM.new hN; clear hN) | (refine v_get rfl rfl (by first | exact lod_int | exact lod_str | exact lod_fcs | exact lod_err) rfl hM.at0 rfl ?_)) | go_values | go_skip | go_guarded | go_step | go_upon | (simp only [Int.not_lt, Int.not_le] at *; go_simp))
      go_ret
      exact ⟨rfl, hM.below⟩
    · rw [if_neg (fun q => h0 q.2)]
      have e1 : (g.st == 5) = true := by simpa using h5
      have e2 : (g.d.se == 0) = false := by simpa using h0
      clear h5 h0 h
      go_enter Try.func30, Try.ntmps30
      repeat' (first | (go_big_may; first | (refine v_box rfl rfl rfl ?_; intro u zg hN; replace hM := hM.new hN; clear hN) | (refine v_get rfl rfl (by first | exact lod_int | exact lod_str | exact lod_fcs | exact lod_err) rfl hM.at0 rfl ?_)) | go_values | go_skip | go_guarded | go_step | go_upon | (simp only [Int.not_lt, Int.not_le] at *; go_simp))
      go_ret
      exact ⟨rfl, hM.below⟩
  · rw [if_neg (fun q => h5 q.1)]
    have e1 : (g.st == 5) = false := by simpa using h5
    clear h5 h
    go_enter Try.func30, Try.ntmps30
    repeat' (first | (go_big_may; first | (refine v_box rfl rfl rfl ?_; intro u zg hN; replace hM := hM.new hN; clear hN) | (refine v_get rfl rfl (by first | exact lod_int | exact lod_str | exact lod_fcs | exact lod_err) rfl hM.at0 rfl ?_)) | go_values | go_skip | go_guarded | go_step | go_upon | (simp only [Int.not_lt, Int.not_le] at *; go_simp))
    go_ret
    exact ⟨rfl, hM.below⟩
/-- what keep answers -/
def KeP (g : Gr) (u : Value) (s : ByteArray) (w : World) (e : Ending) (w' : World) : Prop :=
  ∃ k u' vf L, e = .returned (.tuple #[grV k u', .bool (keepV g s).isSome]) ∧ u'.oneCell' = true ∧ (∀ k', keepV g s = some k' → k = k' ∧ ((u' = u ∧ k.c = g.c) ∨ (u' = vf ∧ L.map Prod.fst = k.c.fs))) ∧ Oc w w' vf L ∧ Below w.heap.size w w'
set_option maxHeartbeats 8000000 in
theorem keep_any (hco : CoAll) (g : Gr) (uv : Value) (s : ByteArray) (w : World) (h : okG g = true) (h8 : ¬ 8 ≤ g.st) (hu : uv.oneCell' = true) (hm : s.size ≤ maxLen) :
    Calls Try.prog 29 #[grV g uv, .string s] w (KeP g uv s w) := by
  have H1 : Hid (∀ w, Calls Try.prog 52 #[.string s] w fun e w' => (∃ x, (hdD s = true → x = bt s 7) ∧ e = .returned (.tuple #[.int .i64 x, .bool (hdD s)])) ∧ w = w') := fun w => readDeviceHead_any s w hm
  have H3 : Hid (∀ w, Calls Try.prog 53 #[.string s, .int .i64 g.m0] w fun e w' => e = .returned (.tuple #[ag (dvl (rdD s)), .bool (okD s g.m0)]) ∧ Below w.heap.size w w') := fun w => readDevice_greet s g.m0 w hm
  have H4 : Hid (∀ w, Calls Try.prog 54 #[.string s] w fun e w' => (∃ x, (hdC s = true → x = w2 s) ∧ e = .returned (.tuple #[.int .i64 x, .bool (hdC s)])) ∧ Below w.heap.size w w') := fun w => readConfigHead_any s w hm
  have H5 : Hid (∀ w, Calls Try.prog 55 #[.string s, .int .i64 g.tot] w fun e w' => ∃ c vf L, e = .returned (.tuple #[ag (cfl c vf), .bool (rgB s g.tot)]) ∧ Oc w w' vf L ∧ L.map Prod.fst = c.fs ∧ (rgB s g.tot = true → rcO s = some c) ∧ Below w.heap.size w w') := fun w => readConfig_greet hco s g.tot w hm
  have H6 : Hid (∀ w, Calls Try.prog 56 #[.string s] w fun e w' => e = .returned (.tuple #[.string (rdT s), .bool (rdC s == 0)]) ∧ Below w.heap.size w w') := fun w => readText_greet s w hm
  have h7 := st_seven h h8
  have hes : s.toList.isEmpty = decide (s.size = 0) := by
    have e : (s.toList == (⟨#[]⟩ : ByteArray).toList) = decide (s.size = 0) := by
      rw [toList_beq]
      by_cases q : s.size = 0
      · rw [decide_eq_true q, decide_eq_true]
        have : s.data = #[] := Array.eq_empty_of_size_eq_zero q
        cases s; simp only at this; rw [this]
      · rw [decide_eq_false q, decide_eq_false]
        intro z; rw [z] at q; exact q rfl
    rw [← e]
    simp
  have HES : Hid (s.toList.isEmpty = decide (s.size = 0)) := hes
  have hM := Mo.nil w
  clear h h8 hm hco hes
  rcases h7 with h7 | h7
  · clear H3 H4 H5 H6
    have H7 : Hid (g.st = 1) := h7
    clear h7
    go_enter Try.func29, Try.ntmps29
    repeat' (first | (go_big_may; first | (refine v_box rfl rfl rfl ?_; intro u zg hN; replace hM := hM.new hN; clear hN) | (refine v_alloc rfl zer_greeting rfl ?_; intro u za hN; replace hM := hM.new hN; clear hN) | (refine v_get rfl rfl lod_int rfl hM.at1 (v := .int .i64 1) (by rw [← H7.out]; rfl) ?_) | (refine v_get rfl rfl (by first | exact lod_int | exact lod_str | exact lod_fcs | exact lod_err) rfl hM.at1 rfl ?_) | (refine v_load rfl rfl row_greeting rfl hM.at1 (Nat.le_refl _) (cut_all rfl) ?_) | (refine v_fill rfl rfl row_greeting rfl rfl hM.at0 (grl_vs _ hu) rfl ?_; intro u hv hc; replace hM := hM.put0 hc hv; clear hv hc)) | go_values | go_skip | go_guarded | go_step | go_upon | (simp only [Int.not_lt, Int.not_le] at *; go_simp))
    refine (H1.out _).mono ?_
    rintro e u1 ⟨⟨x, hx, rfl⟩, rfl⟩
    repeat' (first | (go_big_may; first | (refine v_putx rfl rfl (one_int x) rfl rfl hM.at1 (of_decide_eq_true rfl) (show _ = grl { g with m0 := x } uv from rfl) ?_; intro u hv hc; replace hM := hM.put1 hc hv; clear hv hc) | (refine v_load rfl rfl row_greeting rfl hM.at1 (Nat.le_refl _) (cut_all rfl) ?_) | (refine v_fill rfl rfl row_greeting rfl rfl hM.at0 (grl_vs _ hu) rfl ?_; intro u hv hc; replace hM := hM.put0 hc hv; clear hv hc)) | go_values | go_skip | go_guarded | go_step | go_upon | (simp only [Int.not_lt, Int.not_le] at *; go_simp))
    have h7 := H7.out
    refine bodyPost_ret (ret_2 rfl rfl (ld_var row_greeting hM.at0 rfl) rfl) rfl ⟨{ g with m0 := x }, uv, nilS, [], ?_, hu, ?_, hM.own, hM.below⟩
    · rw [show (keepV g s).isSome = hdD s by rw [k1 h7]; cases hdD s <;> rfl]; rfl
    · intro k' hk
      rw [k1 h7] at hk
      by_cases q : hdD s = true
      · rw [if_pos q] at hk; injection hk with hk; subst hk; exact ⟨by rw [hx q], .inl ⟨rfl, rfl⟩⟩
      · rw [if_neg q] at hk; cases hk
  rcases h7 with h7 | h7
  · clear H1 H3 H4 H5 H6
    have H7 : Hid (g.st = 2) := h7
    clear h7
    go_enter Try.func29, Try.ntmps29
    repeat' (first | (go_big_may; first | (refine v_box rfl rfl rfl ?_; intro u zg hN; replace hM := hM.new hN; clear hN) | (refine v_alloc rfl zer_greeting rfl ?_; intro u za hN; replace hM := hM.new hN; clear hN) | (refine v_get rfl rfl lod_int rfl hM.at1 (v := .int .i64 2) (by rw [← H7.out]; rfl) ?_) | (refine v_get rfl rfl (by first | exact lod_int | exact lod_str | exact lod_fcs | exact lod_err) rfl hM.at1 rfl ?_) | (refine v_load rfl rfl row_greeting rfl hM.at1 (Nat.le_refl _) (cut_all rfl) ?_) | (refine v_fill rfl rfl row_greeting rfl rfl hM.at0 (grl_vs _ hu) rfl ?_; intro u hv hc; replace hM := hM.put0 hc hv; clear hv hc)) | go_values | go_skip | go_guarded | go_step | go_upon | (simp only [Int.not_lt, Int.not_le] at *; go_simp))
    have h7 := H7.out
    refine bodyPost_ret (ret_2 rfl rfl (ld_var row_greeting hM.at0 rfl) rfl) rfl ⟨g, uv, nilS, [], ?_, hu, ?_, hM.own, hM.below⟩
    · rw [show (keepV g s).isSome = decide (s.size = 0) by rw [k27 (by omega)]; by_cases q : s.size = 0 <;> simp [q], ← HES.out]; rfl
    · intro k' hk
      rw [k27 (by omega)] at hk
      by_cases q : s.size = 0
      · rw [if_pos q] at hk; injection hk with hk; subst hk; exact ⟨rfl, .inl ⟨rfl, rfl⟩⟩
      · rw [if_neg q] at hk; cases hk
  rcases h7 with h7 | h7
  · clear H1 H4 H5 H6
    have H7 : Hid (g.st = 3) := h7
    clear h7
    go_enter Try.func29, Try.ntmps29
    repeat' (first | (go_big_may; first | (refine v_box rfl rfl rfl ?_; intro u zg hN; replace hM := hM.new hN; clear hN) | (refine v_alloc rfl zer_greeting rfl ?_; intro u za hN; replace hM := hM.new hN; clear hN) | (refine v_get rfl rfl lod_int rfl hM.at1 (v := .int .i64 3) (by rw [← H7.out]; rfl) ?_) | (refine v_get rfl rfl (by first | exact lod_int | exact lod_str | exact lod_fcs | exact lod_err) rfl hM.at1 rfl ?_) | (refine v_load rfl rfl row_greeting rfl hM.at1 (Nat.le_refl _) (cut_all rfl) ?_) | (refine v_fill rfl rfl row_greeting rfl rfl hM.at0 (grl_vs _ hu) rfl ?_; intro u hv hc; replace hM := hM.put0 hc hv; clear hv hc)) | go_values | go_skip | go_guarded | go_step | go_upon | (simp only [Int.not_lt, Int.not_le] at *; go_simp))
    refine (H3.out _).mono ?_
    rintro e u1 ⟨rfl, hb⟩
    replace hM := hM.call hb
    repeat' (first | (go_big_may; first | (refine v_store rfl rfl row_device rfl rfl hM.at1 (dvl_vs _) (of_decide_eq_true rfl) (show _ = grl { g with d := rdD s } uv from rfl) ?_; intro u hv hc; replace hM := hM.put1 hc hv; clear hv hc) | (refine v_load rfl rfl row_greeting rfl hM.at1 (Nat.le_refl _) (cut_all rfl) ?_) | (refine v_fill rfl rfl row_greeting rfl rfl hM.at0 (grl_vs _ hu) rfl ?_; intro u hv hc; replace hM := hM.put0 hc hv; clear hv hc)) | go_values | go_skip | go_guarded | go_step | go_upon | (simp only [Int.not_lt, Int.not_le] at *; go_simp))
    have h7 := H7.out
    refine bodyPost_ret (ret_2 rfl rfl (ld_var row_greeting hM.at0 rfl) rfl) rfl ⟨{ g with d := rdD s }, uv, nilS, [], ?_, hu, ?_, hM.own, hM.below⟩
    · rw [show (keepV g s).isSome = okD s g.m0 by rw [k3 h7]; cases okD s g.m0 <;> rfl]; rfl
    · intro k' hk
      rw [k3 h7] at hk
      by_cases q : okD s g.m0 = true
      · rw [if_pos q] at hk; injection hk with hk; subst hk; exact ⟨rfl, .inl ⟨rfl, rfl⟩⟩
      · rw [if_neg q] at hk; cases hk
  rcases h7 with h7 | h7
  · clear H1 H3 H5 H6
    have H7 : Hid (g.st = 4) := h7
    clear h7
    go_enter Try.func29, Try.ntmps29
    repeat' (first | (go_big_may; first | (refine v_box rfl rfl rfl ?_; intro u zg hN; replace hM := hM.new hN; clear hN) | (refine v_alloc rfl zer_greeting rfl ?_; intro u za hN; replace hM := hM.new hN; clear hN) | (refine v_get rfl rfl lod_int rfl hM.at1 (v := .int .i64 4) (by rw [← H7.out]; rfl) ?_) | (refine v_get rfl rfl (by first | exact lod_int | exact lod_str | exact lod_fcs | exact lod_err) rfl hM.at1 rfl ?_) | (refine v_load rfl rfl row_greeting rfl hM.at1 (Nat.le_refl _) (cut_all rfl) ?_) | (refine v_fill rfl rfl row_greeting rfl rfl hM.at0 (grl_vs _ hu) rfl ?_; intro u hv hc; replace hM := hM.put0 hc hv; clear hv hc)) | go_values | go_skip | go_guarded | go_step | go_upon | (simp only [Int.not_lt, Int.not_le] at *; go_simp))
    refine (H4.out _).mono ?_
    rintro e u1 ⟨⟨x, hx, rfl⟩, hb⟩
    replace hM := hM.call hb
    repeat' (first | (go_big_may; first | (refine v_putx rfl rfl (one_int x) rfl rfl hM.at1 (of_decide_eq_true rfl) (show _ = grl { g with tot := x } uv from rfl) ?_; intro u hv hc; replace hM := hM.put1 hc hv; clear hv hc) | (refine v_load rfl rfl row_greeting rfl hM.at1 (Nat.le_refl _) (cut_all rfl) ?_) | (refine v_fill rfl rfl row_greeting rfl rfl hM.at0 (grl_vs _ hu) rfl ?_; intro u hv hc; replace hM := hM.put0 hc hv; clear hv hc)) | go_values | go_skip | go_guarded | go_step | go_upon | (simp only [Int.not_lt, Int.not_le] at *; go_simp))
    have h7 := H7.out
    refine bodyPost_ret (ret_2 rfl rfl (ld_var row_greeting hM.at0 rfl) rfl) rfl ⟨{ g with tot := x }, uv, nilS, [], ?_, hu, ?_, hM.own, hM.below⟩
    · rw [show (keepV g s).isSome = hdC s by rw [k4 h7]; cases hdC s <;> rfl]; rfl
    · intro k' hk
      rw [k4 h7] at hk
      by_cases q : hdC s = true
      · rw [if_pos q] at hk; injection hk with hk; subst hk; exact ⟨by rw [hx q], .inl ⟨rfl, rfl⟩⟩
      · rw [if_neg q] at hk; cases hk
  rcases h7 with h7 | h7
  · clear H1 H3 H4 H6
    have H7 : Hid (g.st = 5) := h7
    clear h7
    go_enter Try.func29, Try.ntmps29
    repeat' (first | (go_big_may; first | (refine v_box rfl rfl rfl ?_; intro u zg hN; replace hM := hM.new hN; clear hN) | (refine v_alloc rfl zer_greeting rfl ?_; intro u za hN; replace hM := hM.new hN; clear hN) | (refine v_get rfl rfl lod_int rfl hM.at1 (v := .int .i64 5) (by rw [← H7.out]; rfl) ?_) | (refine v_get rfl rfl (by first | exact lod_int | exact lod_str | exact lod_fcs | exact lod_err) rfl hM.at1 rfl ?_) | (refine v_load rfl rfl row_greeting rfl hM.at1 (Nat.le_refl _) (cut_all rfl) ?_) | (refine v_fill rfl rfl row_greeting rfl rfl hM.at0 (grl_vs _ hu) rfl ?_; intro u hv hc; replace hM := hM.put0 hc hv; clear hv hc)) | go_values | go_skip | go_guarded | go_step | go_upon | (simp only [Int.not_lt, Int.not_le] at *; go_simp))
    refine (H5.out _).mono ?_
    rintro e u1 ⟨c, vf, L, rfl, ho, he, hq, hb⟩
    have h1 := ho.one
    replace hM := hM.take hb ho
    clear hb ho
    repeat' (first | (go_big_may; first | (refine v_store rfl rfl row_config rfl rfl hM.at1 (cfl_vs c h1) (of_decide_eq_true rfl) (show _ = grl { g with c := c } vf from rfl) ?_; intro u hv hc; replace hM := hM.put1 hc hv; clear hv hc) | (refine v_load rfl rfl row_greeting rfl hM.at1 (Nat.le_refl _) (cut_all rfl) ?_) | (refine v_fill rfl rfl row_greeting rfl rfl hM.at0 (grl_vs _ h1) rfl ?_; intro u hv hc; replace hM := hM.put0 hc hv; clear hv hc)) | go_values | go_skip | go_guarded | go_step | go_upon | (simp only [Int.not_lt, Int.not_le] at *; go_simp))
    have h7 := H7.out
    refine bodyPost_ret (ret_2 rfl rfl (ld_var row_greeting hM.at0 rfl) rfl) rfl ⟨{ g with c := c }, vf, vf, L, ?_, h1, ?_, hM.own, hM.below⟩
    · rw [k5_some h7]; rfl
    · intro k' hk
      have hs : (keepV g s).isSome = true := by rw [hk]; rfl
      rw [k5_some h7] at hs
      have hc := hq hs
      rw [rgB_some hc, decide_eq_true_eq] at hs
      rw [k5 h7, hc] at hk
      simp only [hs, if_true] at hk
      injection hk with hk; subst hk
      exact ⟨rfl, .inr ⟨rfl, he⟩⟩
  rcases h7 with h7 | h7
  · clear H1 H3 H4 H5
    have H7 : Hid (g.st = 6) := h7
    clear h7
    go_enter Try.func29, Try.ntmps29
    repeat' (first | (go_big_may; first | (refine v_box rfl rfl rfl ?_; intro u zg hN; replace hM := hM.new hN; clear hN) | (refine v_alloc rfl zer_greeting rfl ?_; intro u za hN; replace hM := hM.new hN; clear hN) | (refine v_get rfl rfl lod_int rfl hM.at1 (v := .int .i64 6) (by rw [← H7.out]; rfl) ?_) | (refine v_get rfl rfl (by first | exact lod_int | exact lod_str | exact lod_fcs | exact lod_err) rfl hM.at1 rfl ?_) | (refine v_load rfl rfl row_greeting rfl hM.at1 (Nat.le_refl _) (cut_all rfl) ?_) | (refine v_fill rfl rfl row_greeting rfl rfl hM.at0 (grl_vs _ hu) rfl ?_; intro u hv hc; replace hM := hM.put0 hc hv; clear hv hc)) | go_values | go_skip | go_guarded | go_step | go_upon | (simp only [Int.not_lt, Int.not_le] at *; go_simp))
    refine (H6.out _).mono ?_
    rintro e u1 ⟨rfl, hb⟩
    replace hM := hM.call hb
    repeat' (first | (go_big_may; first | (refine v_putx rfl rfl (one_str (rdT s)) rfl rfl hM.at1 (of_decide_eq_true rfl) (show _ = grl { g with sr := rdT s } uv from rfl) ?_; intro u hv hc; replace hM := hM.put1 hc hv; clear hv hc) | (refine v_load rfl rfl row_greeting rfl hM.at1 (Nat.le_refl _) (cut_all rfl) ?_) | (refine v_fill rfl rfl row_greeting rfl rfl hM.at0 (grl_vs _ hu) rfl ?_; intro u hv hc; replace hM := hM.put0 hc hv; clear hv hc)) | go_values | go_skip | go_guarded | go_step | go_upon | (simp only [Int.not_lt, Int.not_le] at *; go_simp))
    have h7 := H7.out
    refine bodyPost_ret (ret_2 rfl rfl (ld_var row_greeting hM.at0 rfl) rfl) rfl ⟨{ g with sr := rdT s }, uv, nilS, [], ?_, hu, ?_, hM.own, hM.below⟩
    · rw [show (keepV g s).isSome = (rdC s == 0) by rw [k6 h7]; by_cases q : rdC s = 0 <;> simp [q]]; rfl
    · intro k' hk
      rw [k6 h7] at hk
      by_cases q : rdC s = 0
      · rw [if_pos q] at hk; injection hk with hk; subst hk; exact ⟨rfl, .inl ⟨rfl, rfl⟩⟩
      · rw [if_neg q] at hk; cases hk
  skip
  · clear H1 H3 H4 H5 H6
    have H7 : Hid (g.st = 7) := h7
    clear h7
    go_enter Try.func29, Try.ntmps29
    repeat' (first | (go_big_may; first | (refine v_box rfl rfl rfl ?_; intro u zg hN; replace hM := hM.new hN; clear hN) | (refine v_alloc rfl zer_greeting rfl ?_; intro u za hN; replace hM := hM.new hN; clear hN) | (refine v_get rfl rfl lod_int rfl hM.at1 (v := .int .i64 7) (by rw [← H7.out]; rfl) ?_) | (refine v_get rfl rfl (by first | exact lod_int | exact lod_str | exact lod_fcs | exact lod_err) rfl hM.at1 rfl ?_) | (refine v_load rfl rfl row_greeting rfl hM.at1 (Nat.le_refl _) (cut_all rfl) ?_) | (refine v_fill rfl rfl row_greeting rfl rfl hM.at0 (grl_vs _ hu) rfl ?_; intro u hv hc; replace hM := hM.put0 hc hv; clear hv hc)) | go_values | go_skip | go_guarded | go_step | go_upon | (simp only [Int.not_lt, Int.not_le] at *; go_simp))
    have h7 := H7.out
    refine bodyPost_ret (ret_2 rfl rfl (ld_var row_greeting hM.at0 rfl) rfl) rfl ⟨g, uv, nilS, [], ?_, hu, ?_, hM.own, hM.below⟩
    · rw [show (keepV g s).isSome = decide (s.size = 0) by rw [k27 (by omega)]; by_cases q : s.size = 0 <;> simp [q], ← HES.out]; rfl
    · intro k' hk
      rw [k27 (by omega)] at hk
      by_cases q : s.size = 0
      · rw [if_pos q] at hk; injection hk with hk; subst hk; exact ⟨rfl, .inl ⟨rfl, rfl⟩⟩
      · rw [if_neg q] at hk; cases hk
end Go.Proofs.Ytonheibhbilhhaa.greet
