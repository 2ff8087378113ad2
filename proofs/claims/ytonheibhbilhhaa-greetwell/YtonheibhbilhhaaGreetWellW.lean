/- GreetWell: the walk. -/
import Derived.Test.YtonheibhbilhhaaGreL
import Derived.Test.YtonheibhbilhhaaGreO
import Derived.Test.YtonheibhbilhhaaGreP
import Derived.Test.YtonheibhbilhhaaDescCo
import Derived.Test.YtonheibhbilhhaaGreetWellV
import Derived.Test.YtonheibhbilhhaaGreetWellX
namespace Go.Proofs.Ytonheibhbilhhaa.greetWell
open Go Go.RowKit Go.PlainAid Go.Proofs.Ytonheibhbilhhaa.lane Go.Proofs.Ytonheibhbilhhaa.desc Go.Proofs.Ytonheibhbilhhaa.greet Go.Proofs.Ytonheibhbilhhaa.gadget
set_option linter.unusedVariables false
set_option linter.unusedSimpArgs false
set_option maxRecDepth 100000

set_option maxHeartbeats 16000000 in
theorem walk (d : Dv) (c : Cf) (L : FL) (v : Value) (T : List (List Int)) (tv : Value) (x : Int) (vF : Value) (F : List Int) (wx : (Lit.int .i64 x).wf = true) (w : World) (hp : Shr w c L v T tv) (hF : greet.Ris w vF F) :
    Calls Try.prog 7 #[ag (shl d c v tv), .int .i64 x, vF] w fun e w' => e = .returned (.bool true) ∧ Below w.heap.size w w' := by
  by_cases hq : begE d c T x F = 0
  · by_cases hse : d.se = 0
    · exact walk0 d c L v T tv x vF F wx w hp hF hq hse
    · exact walk1 d c L v T tv x vF F wx w hp hF hq hse
  have hbb : ∀ f ∈ c.fs, BB f.ex := fun f hf => by
    rw [← hp.rc.eq] at hf
    obtain ⟨q, hq, rfl⟩ := List.mem_map.1 hf
    exact (hp.rc.fs.all q hq).bb
  obtain ⟨m, hm⟩ : ∃ m, metM d c T x F = m := ⟨_, rfl⟩
  obtain ⟨z, hz⟩ : ∃ z, begE d c T x F = z := ⟨_, rfl⟩
  have h0 : ¬ z = 0 := fun e => hq (hz.trans e)
  clear hq
  have HMe : Hid (∀ u, Below w.heap.size w u → Calls Try.prog 19 #[ag (shl d c v tv), .int .i64 x, vF] u fun r w' => ∃ u' L', r = .returned (.tuple #[grV m.g u', ag (gdl m.s m.a m.h), .int .i64 (m.n : Int), .int .i64 z]) ∧ Oc u w' u' L' ∧ L'.map Prod.fst = m.g.c.fs ∧ Below u.heap.size u w') := fun u hu => by
    have := meet_any coAll d c L v T tv x vF F u (hp.below hu) (hF.below hu)
    unfold MtP at this
    rw [hm, hz] at this
    exact this
  have HLV : Hid (∀ u, Calls Try.prog 16 #[] u fun e w' => e = .returned (.bool true) ∧ Below u.heap.size u w') := fun u => lives_any coAll u
  have HSO : Hid (v.oneCell' = true ∧ tv.oneCell' = true) := ⟨rc_one hp.rc, by obtain ⟨a, c, h, _⟩ := hp.tx; rw [h]; rfl⟩
  have HRF : Hid (∀ u, Below w.heap.size w u → greet.Ris u vF F) := fun u hu => hF.below hu
  have HRc : Hid (∀ u, Below w.heap.size w u → Rc u v c L) := fun u hu => hp.rc.below hu
  have HZN : Hid (z ≠ 0 → (m.n : Int) = 0) := fun q => by
    rw [← hm]
    unfold metM
    rw [if_pos (by rw [hz]; exact q)]
    rfl
  have HWl : Hid (z = 0 → fewB 0 F = true → (gds F < asksN d → m.g.st < 8) ∧ (asksN d ≤ gds F → m.g.st = 8 ∧ m.s = 2 ∧ m.a = x ∧ m.h = 0 ∧ m.g.d = d ∧ m.g.c = c ∧ m.g.sr = srV d T)) := fun q hw => by
    have := met_well (d := d) (c := c) (T := T) (a := x) (F := F) (by rw [hz]; exact q) hbb hw
    rw [hm] at this
    exact this
  have HSe : Hid (z = 0 → 0 ≤ d.se ∧ d.se ≤ (T.length : Int) ∧ (d.se ≠ 0 → (seT d T).size ≤ 504)) := fun q => by
    have hS : chkS d c T = 0 := by
      rw [← hz] at q
      unfold begE at q
      split at q
      · rename_i q2; exact absurd q q2
      · rename_i q2; omega
    obtain ⟨a1, a2⟩ := se_in hS
    refine ⟨a1, a2, fun h0 => ?_⟩
    have hk : (d.se - 1).toNat < T.length := by omega
    have ht : T[(d.se - 1).toNat]? = some (T.getD (d.se - 1).toNat []) := by rw [List.getD_eq_getElem?_getD, List.getElem?_eq_getElem hk]; rfl
    exact (descNames.back (txE_all (chkS_ok hS).2.2.2.2 _ (List.mem_of_getElem? ht))).2.2.1
  have HTx : Hid (∀ u, Below w.heap.size w u → Rts u tv T) := fun u hu => hp.tx.below hu
  obtain ⟨ta, tc, htv, ht1, ht2, _⟩ := hp.tx.cell
  subst htv
  obtain ⟨fa, fc, hvf, hfc1, hfc2, _⟩ := hF
  have hM := Mo.nil w
  unfold maxLen at hfc2 ht2
  clear hp wx hm hz hbb
  subst hvf
  obtain ⟨n, hn⟩ : ∃ n, F.length = n := ⟨_, rfl⟩
  have HN : Hid (F.length = n) := hn
  obtain ⟨tn, htn⟩ : ∃ n, T.length = n := ⟨_, rfl⟩
  have HTN : Hid (T.length = tn) := htn
  rw [hn] at HRF HMe hfc1 ⊢
  rw [htn] at HTx HMe ht1 HSe ⊢
  clear hn htn
  have e1 : (z != 0) = true := by simpa using h0
  have hmn := HZN.out h0
  clear h0 HWl HSe HZN HTx HRc HRF
  go_enter Try.func7, Try.ntmps7
  repeat' (first | (go_big_may; first | (refine v_box rfl rfl rfl ?_; intro u zs hN; replace hM := hM.new hN; clear hN) | (refine v_load rfl rfl row_sheet rfl hM.at0 (Nat.le_refl _) (cut_all rfl) ?_)) | go_values | go_skip | go_guarded | go_step | go_upon | (simp only [Int.not_lt, Int.not_le] at *; go_simp))
  refine (HMe.out _ hM.below).mono ?_
  rintro e1 u1 ⟨u', L', rfl, ho, hD, hb⟩
  have HO : Hid (u'.oneCell' = true) := ho.one
  rw [hmn]
  replace hM := hM.take hb ho
  clear hb ho hD HMe hmn
  repeat' (first | (go_big_may; first | (refine v_alloc rfl zer_greeting rfl ?_; intro u za hN; replace hM := hM.new hN; clear hN) | (refine v_alloc rfl zer_gadget rfl ?_; intro u zb hN; replace hM := hM.new hN; clear hN) | (refine v_fill rfl rfl row_greeting rfl rfl hM.at1 (grl_vs _ HO.out) rfl ?_; intro u hv hc; replace hM := hM.put1 hc hv; clear hv hc) | (refine v_fill rfl rfl row_gadget rfl rfl hM.at0 (gdl_vs _ _ _) rfl ?_; intro u hv hc; replace hM := hM.put0 hc hv; clear hv hc)) | go_values | go_skip | go_guarded | go_step | go_upon | (simp only [Int.not_lt, Int.not_le] at *; go_simp))
  refine (HLV.out _).mono ?_
  rintro e u2 ⟨rfl, hb⟩
  replace hM := hM.call hb
  clear hb
  repeat' (first | go_values | go_skip | go_guarded | go_step | go_upon | (simp only [Int.not_lt, Int.not_le] at *; go_simp))
  refine (HLV.out _).mono ?_
  rintro e u2 ⟨rfl, hb⟩
  replace hM := hM.call hb
  clear hb
  repeat' (first | go_values | go_skip | go_guarded | go_step | go_upon | (simp only [Int.not_lt, Int.not_le] at *; go_simp))
  go_ret
  exact ⟨rfl, hM.below⟩

end Go.Proofs.Ytonheibhbilhhaa.greetWell
