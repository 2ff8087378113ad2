/- slots: a run of commands. -/
import Derived.Test.YtfhlbndilkidhabSltT
import Derived.Test.YtfhlbndilkidhabSltO
namespace Go.Proofs.Ytfhlbndilkidhab.slots
open Go Go.RowKit
set_option linter.unusedVariables false
set_option linter.unusedSimpArgs false
set_option maxRecDepth 100000

theorem a_ldR {ops : Array Oper} {rest : List Oper} {o : Oper} {a : Act} {w : World} {Q : Exit → Act → World → Prop} (hgd : Region.wanted o (yielded ops a.tmps) = true) {t : TypeId} {x : Operand} (ho : o.op = .load t x)
    {B k n : Nat} (hT : Row t n) {l : List Int} (hx : a.eval x = .pointer (some ⟨B, k, none⟩)) (hB : w.rangeAt B k (l.map (Value.int .i64))) (hl : l.length = n)
    (h : wpList Try.prog ops Q rest (a.put o.dst (ag l)) w) : wpList Try.prog ops Q (o :: rest) a w := by
  obtain ⟨d, h1, h2, h3⟩ := hT.ex
  have hr := run_loadAt_mid w B k t _ d hB h1 h2 (by rw [h3, List.length_map, hl])
  refine wpList_step fun K hK' => ?_
  rw [if_pos hgd]
  unfold Oper.wp execOp
  simp only [ho, hx, Sem.run_bind, hr, Result.andThen_ok, Sem.run_pure]
  exact hK' _ _ h
theorem zer_cmd : Zer 33 4 := ⟨by kernel_rfl⟩
/-- commands, one behind the other -/
def go (B : Bd) : List Cm → Bd
  | [] => B
  | c :: r => go (doB B c.1 c.2.1 c.2.2.1 c.2.2.2).B r
theorem go_at {B : Bd} {T : List Cm} {k : Nat} {c : Cm} (h : T[k]? = some c) : go B (T.drop k) = go (doB B c.1 c.2.1 c.2.2.1 c.2.2.2).B (T.drop (k + 1)) := by
  have hk := (List.getElem?_eq_some_iff.1 h).1
  have hx := (List.getElem?_eq_some_iff.1 h).2
  rw [List.drop_eq_getElem_cons hk, hx]
  rfl
theorem go_fine : ∀ {T : List Cm} {B : Bd}, Wf B → Ok B → Wf (go B T) ∧ Ok (go B T)
  | [], _, h1, h2 => ⟨h1, h2⟩
  | c :: r, B, h1, h2 => go_fine (T := r) (do_wf h1) (do_ok h1 h2)
structure RunI (w wr : World) (zr zb : Nat) (B : Bd) : Prop where
  wf : Wf B
  ok : Ok B
  mm : Mm w wr [(zb, 27, fl B), (zr, 27, List.replicate 594 0)]
set_option maxHeartbeats 8000000 in
theorem run_any (v : Value) (T : List Cm) (w : World) (hv : Rcm w v T) : Calls Try.prog 8 #[v] w fun r w' => r = .returned (.tuple #[ag (fl (go zB T)), .bool true]) ∧ Below w.heap.size w w' := by
  obtain ⟨a, c, rfl, hc1, hc2⟩ := hv.form
  have HR : Hid (Rcm w (.slice a T.length c) T) := hv
  have hzB := zB_fl
  have HZ : Hid _ := hzB
  have HN : Hid (∃ n, T.length = n) := ⟨_, rfl⟩
  obtain ⟨n, hn⟩ := HN.out
  have HTn : Hid (T.length = n) := hn
  obtain ⟨G, hG⟩ : ∃ G, go zB T = G := ⟨_, rfl⟩
  have HG : Hid (go zB T = G) := hG
  rw [hG]
  rw [hn] at HR hc1 ⊢
  have hM := Mm.nil w
  have HDo : Hid (∀ (B : Bd) (c : Cm) u, Wf B → cmOk c → Calls Try.prog 7 #[ag (fl B), ag (cmL c)] u fun r w' => r = .returned (ansV (doB B c.1 c.2.1 c.2.2.1 c.2.2.2)) ∧ Below u.heap.size u w') := fun B c u hw hc => do_any B _ _ _ _ u hw hc.a1 hc.a2
  have hmx : n ≤ 9223372036854775807 := by unfold maxLen at hc2; omega
  clear hv hzB HN hn hG
  go_enter Try.func8, Try.ntmps8
  repeat' (first | (go_big_may; first | (refine a_alloc rfl zer_board rfl ?_; intro u zx hN; replace hM := hM.new hN; clear hN)) | go_values | go_skip | go_guarded | go_step | go_upon | (simp only [Int.not_lt, Int.not_le] at *; go_simp))
  rename_i _ _ zr _ _
  have HI : Hid (RunI w u zr zx zB) := ⟨zB_wf, zB_ok, by rw [HZ.out]; exact hM⟩
  clear hM
  go_loopw [5, 7, 10] (fun f _ i wr => ∃ k : Nat, k ≤ n ∧ i = .int .i64 (k : Int) ∧ f = .bool true ∧ Hid (∃ B, RunI w wr zr zx B ∧ go B (T.drop k) = G)) (fun _ _ i _ => n - (intOf i).toNat)
  case atStart => exact ⟨0, by omega, rfl, rfl, zB, HI.out, HG.out⟩
  case round =>
    obtain ⟨k, hk, rfl, rfl, HA⟩ := hrel
    obtain ⟨B, hI, hGo⟩ := HA.out
    have hw := hI.wf
    have hok := hI.ok
    have hM := hI.mm
    have HL : Hid ((fl B).length = 594) := hw.length
    have HE : Hid (0 + 594 ≤ (fl B).length) := by show 0 + 594 ≤ _; rw [hw.length]; omega
    have HC : Hid (cut (fl B) 0 594 = fl B) := cut_all hw.length
    clear HA HG HI
    by_cases hlt : ¬ k < n
    · have HX : Hid (B = G) := by
        rw [List.drop_eq_nil_of_le (by have := HTn.out; omega)] at hGo
        exact hGo
      clear hI hw hok hGo
      repeat' (first | (go_big_may; first | (refine a_load rfl rfl row_board rfl hM.at0 HE.out HC.out ?_) | (refine a_fill rfl rfl row_board rfl rfl hM.at1 HL.out rep_594 ?_; intro u hv hc; replace hM := hM.put1 hc hv; clear hv hc)) | go_values | go_skip | go_guarded | go_step | go_upon | (simp only [Int.not_lt, Int.not_le] at *; go_simp))
      rw [← HX.out]
      exact bodyPost_ret (ret_2 Try.results8 rfl (ld_var row_board hM.at1 HL.out) rfl) rfl ⟨rfl, hM.below⟩
    have hlt : k < n := by omega
    obtain ⟨x, hx⟩ : ∃ x, T[k]? = some x := ⟨T[k]'(by have := HTn.out; omega), List.getElem?_eq_getElem (by have := HTn.out; omega)⟩
    obtain ⟨g, off, rfl, hcx, hrg⟩ := HR.out.at k x hx
    rw [go_at hx] at hGo
    have HGo : Hid _ := hGo
    have HRG : Hid (wr.rangeAt g (off + k * 4) ((cmL x).map (Value.int .i64))) := hrg wr hM.below
    have HD : Hid (∀ u, Calls Try.prog 7 #[ag (fl B), ag (cmL x)] u fun r w' => r = .returned (ansV (doB B x.1 x.2.1 x.2.2.1 x.2.2.2)) ∧ Below u.heap.size u w') := fun u => HDo.out B x u hw hcx
    have hw2 : Wf (doB B x.1 x.2.1 x.2.2.1 x.2.2.2).B := do_wf hw
    have hok2 : Ok (doB B x.1 x.2.1 x.2.2.1 x.2.2.2).B := do_ok hw hok
    have HW2 : Hid _ := hw2
    have HO2 : Hid _ := hok2
    have HBd : Hid (∀ u, Calls Try.prog 14 #[ag (fl (doB B x.1 x.2.1 x.2.2.1 x.2.2.2).B)] u fun r w' => r = .returned (.int .i64 0) ∧ Below u.heap.size u w') := fun u => by
      have := board_any _ u hw2
      rw [chE_ok hw2 hok2] at this
      exact this
    have HL2 : Hid ((fl (doB B x.1 x.2.1 x.2.2.1 x.2.2.2).B).length = 594) := hw2.length
    have HE2 : Hid (0 + 594 ≤ (fl (doB B x.1 x.2.1 x.2.2.1 x.2.2.2).B).length) := by show 0 + 594 ≤ _; rw [hw2.length]; omega
    have HC2 : Hid (cut (fl (doB B x.1 x.2.1 x.2.2.1 x.2.2.2).B) 0 594 = fl (doB B x.1 x.2.1 x.2.2.1 x.2.2.2).B) := cut_all hw2.length
    have HX4 : Hid ((cmL x).length = 4) := rfl
    have HXC : Hid (cut (cmL x) 0 4 = cmL x) := rfl
    have HXE : Hid (0 + 4 ≤ (cmL x).length) := Nat.le_refl _
    clear hI hw hok hGo hx hcx hrg HDo hw2 hok2
    generalize doB B x.1 x.2.1 x.2.2.1 x.2.2.2 = y at *
    generalize cmL x = xl at *
    repeat' (first | (go_big_may; first | (refine a_ldR rfl rfl row_cmd rfl HRG.out HX4.out ?_) | (refine a_alloc rfl zer_cmd rfl ?_; intro u zc hN; replace hM := hM.new hN; clear hN) | (refine a_fill rfl rfl row_cmd rfl rfl hM.at0 HX4.out List.length_replicate ?_; intro u hv hc; replace hM := hM.put0 hc hv; clear hv hc) | (refine a_load rfl rfl row_board rfl hM.at1 HE.out HC.out ?_) | (refine a_load rfl rfl row_cmd rfl hM.at0 HXE.out HXC.out ?_)) | go_values | go_skip | go_guarded | go_step | go_upon | (simp only [Int.not_lt, Int.not_le] at *; go_simp))
    refine (HD.out _).mono ?_
    rintro r u ⟨rfl, hv⟩
    replace hM := hM.call hv
    clear hv
    repeat' (first | (go_big_may; first | (refine a_fill rfl rfl row_board rfl rfl hM.at1 HL2.out HL.out ?_; intro u hv hc; replace hM := hM.put1 hc hv; clear hv hc) | (refine a_load rfl rfl row_board rfl hM.at1 HE2.out HC2.out ?_)) | go_values | go_skip | go_guarded | go_step | go_upon | (simp only [Int.not_lt, Int.not_le] at *; go_simp))
    refine (HBd.out _).mono ?_
    rintro r u ⟨rfl, hv⟩
    replace hM := hM.call hv
    clear hv
    repeat' (first | go_values | go_skip | go_guarded | go_step | go_upon | (simp only [Int.not_lt, Int.not_le] at *; go_simp))
    go_roundw
    case rel => exact ⟨k + 1, by omega, by go_num, y.B, ⟨HW2.out, HO2.out, hM.tail⟩, HGo.out⟩
    case measure => simp [intOf]; omega
end Go.Proofs.Ytfhlbndilkidhab.slots
