/- BudgetOwn: lists that are handed in stay as they were, and a plan shares nothing with another one. -/
import Derived.Test.YtcenaleladjakabBudCl
import Derived.Test.YtcenaleladjakabBudX
import Derived.SizedLaws
namespace Go.Proofs.Ytcenaleladjakab.budgetOwn
open Go.RowKit Go.Proofs.Ytcenaleladjakab.budget
set_option linter.unusedVariables false
set_option linter.unusedSimpArgs false
set_option maxRecDepth 100000

def tlL : Option (List Bt) → List Bi
  | none => []
  | some B => toI B
theorem tld_rbs {w u : World} {pv : Value} {r : Option (List Bt)} (h : Tld w u pv r) (hl : ∀ B, r = some B → B.length ≤ 64) : Rbs u pv (tlL r) := by
  cases r with
  | none =>
    have : pv = .slice none 0 0 := h
    subst this
    exact ⟨none, 0, rfl, Nat.le_refl _, Nat.zero_le _, fun q => (Nat.lt_irrefl 0 q).elim⟩
  | some B =>
    obtain ⟨g, rfl, h1, h2⟩ := h
    have := rbs_of (T := toI B) h1 (by rw [toI_len]; have := hl B rfl; unfold maxLen; omega)
    rw [toI_len] at this
    exact this
theorem bld_nine (w : World) : (Instr.build 33 #[(0, .int .i64 9)]).run Try.prog w = .ok (agv (ivs [9, 0])) w := by kernel_rfl
theorem ptv_len {l r : List Value} {k : Nat} (h : k + r.length ≤ l.length) : (ptv l k r).length = l.length := by simp [ptv]; omega
/-- what is read at u3, and stays -/
structure Kp (u3 : World) (v bv av wv : Value) (P : List Int) (T : List Bi) : Prop where
  v : Ris u3 v P
  b : Ris u3 bv P
  a : Rbs u3 av T
  w : Rbs u3 wv T
set_option maxHeartbeats 16000000 in
theorem walk (v : Value) (P : List Int) (m : Int) (wm : (Lit.int .i64 m).wf = true) (w : World) (hp : Ris w v P) (hk : P.length * 8 ≤ reachBytes) :
    Calls Try.prog 4 #[v, .int .i64 m] w fun e w' => e = .returned (.bool true) ∧ Below w.heap.size w w' := by
  have hlen : ∀ B, plR P m = some B → B.length ≤ 64 := fun B hB => by
    rcases plan_cases P m with ⟨hr, _⟩ | ⟨M, rfl, _, _, hl, hP, _, hq⟩
    · rw [hr] at hB; exact absurd hB (by simp)
    · rcases hq with ⟨hr, _⟩ | ⟨B', hr, _, hpl, _⟩
      · rw [hr] at hB; exact absurd hB (by simp)
      · rw [hr] at hB
        injection hB with hB
        subst hB
        rw [(plan_ens hP hpl).1]
        exact hl
  have hcode : plR P m = none ∨ plC P m = 0 := by
    rcases plan_cases P m with ⟨hr, _⟩ | ⟨M, rfl, _, _, _, _, _, hq⟩
    · exact .inl hr
    · rcases hq with ⟨hr, _⟩ | ⟨B', _, hc, _⟩
      · exact .inl hr
      · exact .inr hc
  have HCI : Hid (Calls Try.prog 8 #[v] w fun e w' => ∃ v', e = .returned v' ∧ Iw w' w.heap.size v' P ∧ Below w.heap.size w w') := cloneI_any v P w hp (by unfold reachBytes at hk; omega)
  have HPl : Hid (∀ u, Below w.heap.size w u → Calls Try.prog 5 #[v, .int .i64 m] u fun e u' => ∃ pv, e = .returned (.tuple #[pv, .int .i64 (plC P m)]) ∧ Tld u u' pv (plR P m) ∧ Below u.heap.size u u') := fun u hb => plan_any v P m u (hp.below hb)
  have HCB : Hid (∀ x u, Rbs u x (tlL (plR P m)) → Calls Try.prog 9 #[x] u fun e w' => ∃ v', e = .returned v' ∧ Bo w' u.heap.size v' (tlL (plR P m)) ∧ Below u.heap.size u w') := fun x u h => cloneB_any x _ u h (by
    cases hr : plR P m with
    | none => simp [tlL]
    | some B => have := hlen B hr; simp [tlL, toI_len]; omega)
  have HLo : Hid (∀ (x : Value) (u : World) (m' : Int), Ris u v P → Rbs u x (tlL (plR P m)) → Calls Try.prog 10 #[v, x, .int .i64 m', .int .i64 0] u fun e u' => ∃ tv cc l, e = .returned (.tuple #[tv, .int .i64 cc]) ∧ Iw u' u.heap.size tv l ∧ Below u.heap.size u u') := fun x u m' h1 h2 => (load_any v x P _ m' 0 u h1 h2 (by omega)).mono (fun e u' ⟨tv, h3, h4, h5⟩ => ⟨tv, _, _, h3, h4, h5⟩)
  have HL : Hid (∀ u, Calls Try.prog 6 #[] u fun e w' => e = .returned (.bool true) ∧ Below u.heap.size u w') := lives_any
  have HEI : Hid (∀ (x y : Value) (l : List Int) (u : World), Ris u x l → Ris u y l → Calls Try.prog 11 #[x, y] u fun e w' => e = .returned (.bool true) ∧ Below u.heap.size u w') := fun x y l u h1 h2 => by
    have := equalI_any x y l l u h1 h2
    simpa using this
  have HEB : Hid (∀ (x y : Value) (l : List Bi) (u : World), Rbs u x l → Rbs u y l → Calls Try.prog 12 #[x, y] u fun e w' => e = .returned (.bool true) ∧ Below u.heap.size u w') := fun x y l u h1 h2 => by
    have := equalB_any x y l l u h1 h2
    simpa using this
  have HRV : Hid (Ris w v P) := hp
  obtain ⟨va, vc, rfl, hvl, hvm⟩ := hp.form
  obtain ⟨n, hn⟩ : ∃ n, P.length = n := ⟨_, rfl⟩
  rw [hn] at HCI HPl HLo HRV ⊢
  obtain ⟨cc, hcc⟩ : ∃ cc, plC P m = cc := ⟨_, rfl⟩
  obtain ⟨r, hr⟩ : ∃ r, plR P m = r := ⟨_, rfl⟩
  rw [hcc, hr] at HPl
  rw [hr] at HCB HLo hlen hcode
  rw [hcc] at hcode
  have HLn : Hid (∀ B, r = some B → B.length ≤ 64) := hlen
  obtain ⟨m1, em1⟩ : ∃ m1 : Int, (if m < 8 then m else 8) = m1 := ⟨_, rfl⟩
  obtain ⟨m2, em2⟩ : ∃ m2 : Int, (if 1 < m1 then m1 else 1) = m2 := ⟨_, rfl⟩
  clear hp hk hn hcc hr hlen wm hvl hvm
  cases r with
  | none =>
    by_cases hz : cc = 0
    · have ez : (cc == 0) = true := by simp [hz]
      clear hz hcode
      go_enter Try.func4, Try.ntmps4
      go_wp2_with fail
      refine (HCI.out).mono ?_
      rintro e u1 ⟨bfv, rfl, hI1, hb⟩
      have HB1 : Hid (Below w.heap.size w u1) := hb
      have HI1 : Hid (Ris u1 bfv P) := hI1.ris
      clear HCI hI1 hb
      go_wp2_with fail
      refine (HPl.out u1 HB1.out).mono ?_
      rintro e u2 ⟨av, rfl, hT, hb⟩
      have HB2 : Hid (Below w.heap.size w u2) := bsq HB1.out hb
      have HI2 : Hid (Ris u2 bfv P ∧ Rbs u2 av (tlL none)) := ⟨HI1.out.below hb, tld_rbs hT HLn.out⟩
      have hav : av = .slice none 0 0 := hT
      subst hav
      clear hb HB1 HI1
      go_wp2_with fail
      refine (HCB.out _ u2 HI2.out.2).mono ?_
      rintro e u3 ⟨wv, rfl, hW, hb⟩
      have HBw : Hid (Below w.heap.size w u3) := bsq HB2.out hb
      have HKp : Hid (Kp u3 (.slice va n vc) bfv (.slice none 0 0) wv P (tlL none)) := ⟨HRV.out.below HBw.out, HI2.out.1.below hb, HI2.out.2.below hb, hW.rbs⟩
      clear hb HB2 HI2 hW HCB HRV
      go_wp2_with fail
      refine (HPl.out u3 HBw.out).mono ?_
      rintro e u4 ⟨bv2, rfl, hT, hb⟩
      have hbv : bv2 = .slice none 0 0 := hT
      subst hbv
      have HB4 : Hid (Below u3.heap.size u3 u4) := hb
      clear hb HPl HLn
      go_wp2
      go_loopw [11, 33] (fun _ kv wr => kv = .int .i64 0 ∧ Hid (Below u3.heap.size u3 wr)) (fun _ kv _ => 1 - (intOf kv).toNat)
      case atStart => exact ⟨rfl, HB4.out⟩
      case round =>
        clear HB4
        obtain ⟨rfl, HB5⟩ := hrel
        go_wp2_with fail
        refine (HLo.out _ wr _ (HKp.out.v.below HB5.out) (HKp.out.a.below HB5.out)).mono ?_
        rintro e u6 ⟨tv, lc, l, rfl, hI, hb⟩
        have HB6 : Hid (Below u3.heap.size u3 u6 ∧ u3.heap.size ≤ wr.heap.size) := ⟨bsq HB5.out hb, HB5.out.size⟩
        rcases hI.2 with ⟨rfl, h0⟩ | ⟨gl, cap, cur, rfl, hgB, hg, hnc, hcm, hs, ht⟩
        · have HB7 : Hid (Below u3.heap.size u3 u6) := HB6.out.1
          clear hI hb h0 HB5 HB6 HLo
          go_wp2
          go_loopw [14, 52] (fun _ kv wr => kv = .int .i64 0 ∧ Hid (Below u3.heap.size u3 wr)) (fun _ kv _ => 1 - (intOf kv).toNat)
          case atStart => exact ⟨rfl, HB7.out⟩
          case round =>
            clear HB7
            obtain ⟨rfl, HB8⟩ := hrel
            go_wp2_with fail
            refine (HL.out wr).mono ?_
            rintro e u8 ⟨rfl, hb⟩
            have HB9 : Hid (Below u3.heap.size u3 u8) := bsq HB8.out hb
            clear hb HB8 HL
            go_wp2_with fail
            refine (HEI.out _ _ P u8 (HKp.out.v.below HB9.out) (HKp.out.b.below HB9.out)).mono ?_
            rintro e u9 ⟨rfl, hb⟩
            have HB10 : Hid (Below u3.heap.size u3 u9) := bsq HB9.out hb
            clear hb HB9 HEI
            go_wp2_with fail
            refine (HEB.out _ _ _ u9 (HKp.out.a.below HB10.out) (HKp.out.w.below HB10.out)).mono ?_
            rintro e u10 ⟨rfl, hb⟩
            have HB11 : Hid (Below w.heap.size w u10) := bsq HBw.out (bsq HB10.out hb)
            clear hb HB10 HEB HKp HBw
            go_wp2
            go_ret
            exact ⟨rfl, HB11.out⟩
        · obtain ⟨ll, hll⟩ : ∃ ll, l.length = ll := ⟨_, rfl⟩
          rw [hll] at hnc ⊢
          have HB7 : Hid (∃ row : List Value, u6.heap[gl]? = some (bv 3 row) ∧ ll ≤ row.length ∧ Below u3.heap.size u3 u6) := ⟨cur.toList, by rw [hg]; simp [bv], by simp; omega, HB6.out.1⟩
          have hgl : u3.heap.size ≤ gl := Nat.le_trans HB6.out.2 hgB
          unfold maxLen at hcm
          clear hI hb hg hs ht hll HB5 HB6 HLo hgB
          go_wp2
          go_loopw [14, 52] (fun _ kv wr => ∃ k : Nat, k ≤ ll ∧ kv = .int .i64 (k : Int) ∧ Hid (∃ row : List Value, wr.heap[gl]? = some (bv 3 row) ∧ ll ≤ row.length ∧ Below u3.heap.size u3 wr)) (fun _ kv _ => ll - (intOf kv).toNat)
          case atStart => exact ⟨0, Nat.zero_le _, rfl, HB7.out⟩
          case round =>
            clear HB7
            obtain ⟨k, hk, rfl, HA⟩ := hrel
            by_cases hkl : ¬ k < ll
            · have HB8 : Hid (Below u3.heap.size u3 wr) := by obtain ⟨row, _, _, h⟩ := HA.out; exact h
              clear HA
              go_wp2_with fail
              refine (HL.out wr).mono ?_
              rintro e u8 ⟨rfl, hb⟩
              have HB9 : Hid (Below u3.heap.size u3 u8) := bsq HB8.out hb
              clear hb HB8 HL
              go_wp2_with fail
              refine (HEI.out _ _ P u8 (HKp.out.v.below HB9.out) (HKp.out.b.below HB9.out)).mono ?_
              rintro e u9 ⟨rfl, hb⟩
              have HB10 : Hid (Below u3.heap.size u3 u9) := bsq HB9.out hb
              clear hb HB9 HEI
              go_wp2_with fail
              refine (HEB.out _ _ _ u9 (HKp.out.a.below HB10.out) (HKp.out.w.below HB10.out)).mono ?_
              rintro e u10 ⟨rfl, hb⟩
              have HB11 : Hid (Below w.heap.size w u10) := bsq HBw.out (bsq HB10.out hb)
              clear hb HB10 HEB HKp HBw
              go_wp2
              go_ret
              exact ⟨rfl, HB11.out⟩
            have hkl : k < ll := by omega
            obtain ⟨row, h1, h2, h3⟩ := HA.out
            have hst := set_bv (j := k) (x := .int .i64 99) h1
            have HQ : Hid (∃ row : List Value, (wr.setCell ⟨gl, k, none⟩ (.int .i64 99)).heap[gl]? = some (bv 3 row) ∧ ll ≤ row.length ∧ Below u3.heap.size u3 (wr.setCell ⟨gl, k, none⟩ (.int .i64 99))) := ⟨_, hst.1, by rw [List.length_set]; exact h2, hst.2.below _ _ hgl h3⟩
            obtain ⟨y0, hy0⟩ : ∃ y0, row[k]? = some y0 := ⟨row[k]'(by omega), List.getElem?_eq_getElem _⟩
            have hct := bv_cell h1 hy0
            have hft := bv_free h1 k
            clear HA hst h1 h2 h3 hy0 HKp HL HEI HEB HBw
            go_wp2
            go_roundw
            case rel => exact ⟨k + 1, by omega, by go_num, HQ.out⟩
            case measure => simp [intOf]; omega
    · have ez : (cc == 0) = false := by simp [hz]
      clear hz hcode
      go_enter Try.func4, Try.ntmps4
      go_wp2_with fail
      refine (HCI.out).mono ?_
      rintro e u1 ⟨bfv, rfl, hI1, hb⟩
      have HB1 : Hid (Below w.heap.size w u1) := hb
      have HI1 : Hid (Ris u1 bfv P) := hI1.ris
      clear HCI hI1 hb
      go_wp2_with fail
      refine (HPl.out u1 HB1.out).mono ?_
      rintro e u2 ⟨av, rfl, hT, hb⟩
      have HB2 : Hid (Below w.heap.size w u2) := bsq HB1.out hb
      have HI2 : Hid (Ris u2 bfv P ∧ Rbs u2 av (tlL none)) := ⟨HI1.out.below hb, tld_rbs hT HLn.out⟩
      have hav : av = .slice none 0 0 := hT
      subst hav
      clear hb HB1 HI1
      go_wp2_with fail
      refine (HCB.out _ u2 HI2.out.2).mono ?_
      rintro e u3 ⟨wv, rfl, hW, hb⟩
      have HBw : Hid (Below w.heap.size w u3) := bsq HB2.out hb
      have HKp : Hid (Kp u3 (.slice va n vc) bfv (.slice none 0 0) wv P (tlL none)) := ⟨HRV.out.below HBw.out, HI2.out.1.below hb, HI2.out.2.below hb, hW.rbs⟩
      clear hb HB2 HI2 hW HCB HRV
      go_wp2_with fail
      refine (HPl.out u3 HBw.out).mono ?_
      rintro e u4 ⟨bv2, rfl, hT, hb⟩
      have hbv : bv2 = .slice none 0 0 := hT
      subst hbv
      have HB4 : Hid (Below u3.heap.size u3 u4) := hb
      clear hb HPl HLn
      go_wp2
      go_loopw [11, 33] (fun _ kv wr => kv = .int .i64 0 ∧ Hid (Below u3.heap.size u3 wr)) (fun _ kv _ => 1 - (intOf kv).toNat)
      case atStart => exact ⟨rfl, HB4.out⟩
      case round =>
        clear HB4
        obtain ⟨rfl, HB5⟩ := hrel
        go_wp2_with fail
        refine (HLo.out _ wr _ (HKp.out.v.below HB5.out) (HKp.out.a.below HB5.out)).mono ?_
        rintro e u6 ⟨tv, lc, l, rfl, hI, hb⟩
        have HB6 : Hid (Below u3.heap.size u3 u6 ∧ u3.heap.size ≤ wr.heap.size) := ⟨bsq HB5.out hb, HB5.out.size⟩
        rcases hI.2 with ⟨rfl, h0⟩ | ⟨gl, cap, cur, rfl, hgB, hg, hnc, hcm, hs, ht⟩
        · have HB7 : Hid (Below u3.heap.size u3 u6) := HB6.out.1
          clear hI hb h0 HB5 HB6 HLo
          go_wp2
          go_loopw [14, 52] (fun _ kv wr => kv = .int .i64 0 ∧ Hid (Below u3.heap.size u3 wr)) (fun _ kv _ => 1 - (intOf kv).toNat)
          case atStart => exact ⟨rfl, HB7.out⟩
          case round =>
            clear HB7
            obtain ⟨rfl, HB8⟩ := hrel
            go_wp2_with fail
            refine (HL.out wr).mono ?_
            rintro e u8 ⟨rfl, hb⟩
            have HB9 : Hid (Below u3.heap.size u3 u8) := bsq HB8.out hb
            clear hb HB8 HL
            go_wp2_with fail
            refine (HEI.out _ _ P u8 (HKp.out.v.below HB9.out) (HKp.out.b.below HB9.out)).mono ?_
            rintro e u9 ⟨rfl, hb⟩
            have HB10 : Hid (Below u3.heap.size u3 u9) := bsq HB9.out hb
            clear hb HB9 HEI
            go_wp2_with fail
            refine (HEB.out _ _ _ u9 (HKp.out.a.below HB10.out) (HKp.out.w.below HB10.out)).mono ?_
            rintro e u10 ⟨rfl, hb⟩
            have HB11 : Hid (Below w.heap.size w u10) := bsq HBw.out (bsq HB10.out hb)
            clear hb HB10 HEB HKp HBw
            go_wp2
            go_ret
            exact ⟨rfl, HB11.out⟩
        · obtain ⟨ll, hll⟩ : ∃ ll, l.length = ll := ⟨_, rfl⟩
          rw [hll] at hnc ⊢
          have HB7 : Hid (∃ row : List Value, u6.heap[gl]? = some (bv 3 row) ∧ ll ≤ row.length ∧ Below u3.heap.size u3 u6) := ⟨cur.toList, by rw [hg]; simp [bv], by simp; omega, HB6.out.1⟩
          have hgl : u3.heap.size ≤ gl := Nat.le_trans HB6.out.2 hgB
          unfold maxLen at hcm
          clear hI hb hg hs ht hll HB5 HB6 HLo hgB
          go_wp2
          go_loopw [14, 52] (fun _ kv wr => ∃ k : Nat, k ≤ ll ∧ kv = .int .i64 (k : Int) ∧ Hid (∃ row : List Value, wr.heap[gl]? = some (bv 3 row) ∧ ll ≤ row.length ∧ Below u3.heap.size u3 wr)) (fun _ kv _ => ll - (intOf kv).toNat)
          case atStart => exact ⟨0, Nat.zero_le _, rfl, HB7.out⟩
          case round =>
            clear HB7
            obtain ⟨k, hk, rfl, HA⟩ := hrel
            by_cases hkl : ¬ k < ll
            · have HB8 : Hid (Below u3.heap.size u3 wr) := by obtain ⟨row, _, _, h⟩ := HA.out; exact h
              clear HA
              go_wp2_with fail
              refine (HL.out wr).mono ?_
              rintro e u8 ⟨rfl, hb⟩
              have HB9 : Hid (Below u3.heap.size u3 u8) := bsq HB8.out hb
              clear hb HB8 HL
              go_wp2_with fail
              refine (HEI.out _ _ P u8 (HKp.out.v.below HB9.out) (HKp.out.b.below HB9.out)).mono ?_
              rintro e u9 ⟨rfl, hb⟩
              have HB10 : Hid (Below u3.heap.size u3 u9) := bsq HB9.out hb
              clear hb HB9 HEI
              go_wp2_with fail
              refine (HEB.out _ _ _ u9 (HKp.out.a.below HB10.out) (HKp.out.w.below HB10.out)).mono ?_
              rintro e u10 ⟨rfl, hb⟩
              have HB11 : Hid (Below w.heap.size w u10) := bsq HBw.out (bsq HB10.out hb)
              clear hb HB10 HEB HKp HBw
              go_wp2
              go_ret
              exact ⟨rfl, HB11.out⟩
            have hkl : k < ll := by omega
            obtain ⟨row, h1, h2, h3⟩ := HA.out
            have hst := set_bv (j := k) (x := .int .i64 99) h1
            have HQ : Hid (∃ row : List Value, (wr.setCell ⟨gl, k, none⟩ (.int .i64 99)).heap[gl]? = some (bv 3 row) ∧ ll ≤ row.length ∧ Below u3.heap.size u3 (wr.setCell ⟨gl, k, none⟩ (.int .i64 99))) := ⟨_, hst.1, by rw [List.length_set]; exact h2, hst.2.below _ _ hgl h3⟩
            obtain ⟨y0, hy0⟩ : ∃ y0, row[k]? = some y0 := ⟨row[k]'(by omega), List.getElem?_eq_getElem _⟩
            have hct := bv_cell h1 hy0
            have hft := bv_free h1 k
            clear HA hst h1 h2 h3 hy0 HKp HL HEI HEB HBw
            go_wp2
            go_roundw
            case rel => exact ⟨k + 1, by omega, by go_num, HQ.out⟩
            case measure => simp [intOf]; omega
  | some B =>
    have hz : cc = 0 := by rcases hcode with q | q; exact absurd q (by simp); exact q
    have ez : (cc == 0) = true := by simp [hz]
    clear hz hcode
    go_enter Try.func4, Try.ntmps4
    go_wp2_with fail
    refine (HCI.out).mono ?_
    rintro e u1 ⟨bfv, rfl, hI1, hb⟩
    have HB1 : Hid (Below w.heap.size w u1) := hb
    have HI1 : Hid (Ris u1 bfv P) := hI1.ris
    clear HCI hI1 hb
    go_wp2_with fail
    refine (HPl.out u1 HB1.out).mono ?_
    rintro e u2 ⟨av, rfl, hT, hb⟩
    have HB2 : Hid (Below w.heap.size w u2) := bsq HB1.out hb
    have HI2 : Hid (Ris u2 bfv P ∧ Rbs u2 av (tlL (some B))) := ⟨HI1.out.below hb, tld_rbs hT HLn.out⟩
    obtain ⟨ga, rfl, _, _⟩ := hT
    clear hb HB1 HI1
    go_wp2_with fail
    refine (HCB.out _ u2 HI2.out.2).mono ?_
    rintro e u3 ⟨wv, rfl, hW, hb⟩
    have HBw : Hid (Below w.heap.size w u3) := bsq HB2.out hb
    have HKp : Hid (Kp u3 (.slice va n vc) bfv (.slice (some ⟨ga, 0, none⟩) B.length B.length) wv P (tlL (some B))) := ⟨HRV.out.below HBw.out, HI2.out.1.below hb, HI2.out.2.below hb, hW.rbs⟩
    clear hb HB2 HI2 hW HCB HRV
    go_wp2_with fail
    refine (HPl.out u3 HBw.out).mono ?_
    rintro e u4 ⟨bv2, rfl, hT, hb⟩
    obtain ⟨gb, rfl, hgb, hgs⟩ := hT
    have HB4 : Hid (∃ row : List Value, u4.heap[gb]? = some (bv 33 row) ∧ row.length = B.length * 2 ∧ Below u3.heap.size u3 u4) := ⟨_, hgb, by rw [ivs_length, bfl_len, toI_len], hb⟩
    have hB64 := HLn.out B rfl
    clear hb hgb HPl HLn
    obtain ⟨nb, hnb⟩ : ∃ nb, B.length = nb := ⟨_, rfl⟩
    rw [hnb] at HB4 hB64 HKp ⊢
    clear hnb
    go_wp2
    go_loopw [11, 33] (fun _ kv wr => ∃ k : Nat, k ≤ nb ∧ kv = .int .i64 (k : Int) ∧ Hid (∃ row : List Value, wr.heap[gb]? = some (bv 33 row) ∧ row.length = nb * 2 ∧ Below u3.heap.size u3 wr)) (fun _ kv _ => nb - (intOf kv).toNat)
    case atStart => exact ⟨0, Nat.zero_le _, rfl, HB4.out⟩
    case round =>
      clear HB4
      obtain ⟨k, hk, rfl, HA⟩ := hrel
      by_cases hkn : ¬ k < nb
      · have HB5 : Hid (Below u3.heap.size u3 wr) := by obtain ⟨row, _, _, h⟩ := HA.out; exact h
        clear HA
        go_wp2_with fail
        refine (HLo.out _ wr _ (HKp.out.v.below HB5.out) (HKp.out.a.below HB5.out)).mono ?_
        rintro e u6 ⟨tv, lc, l, rfl, hI, hb⟩
        have HB6 : Hid (Below u3.heap.size u3 u6 ∧ u3.heap.size ≤ wr.heap.size) := ⟨bsq HB5.out hb, HB5.out.size⟩
        rcases hI.2 with ⟨rfl, h0⟩ | ⟨gl, cap, cur, rfl, hgB, hg, hnc, hcm, hs, ht⟩
        · have HB7 : Hid (Below u3.heap.size u3 u6) := HB6.out.1
          clear hI hb h0 HB5 HB6 HLo
          go_wp2
          go_loopw [14, 52] (fun _ kv wr => kv = .int .i64 0 ∧ Hid (Below u3.heap.size u3 wr)) (fun _ kv _ => 1 - (intOf kv).toNat)
          case atStart => exact ⟨rfl, HB7.out⟩
          case round =>
            clear HB7
            obtain ⟨rfl, HB8⟩ := hrel
            go_wp2_with fail
            refine (HL.out wr).mono ?_
            rintro e u8 ⟨rfl, hb⟩
            have HB9 : Hid (Below u3.heap.size u3 u8) := bsq HB8.out hb
            clear hb HB8 HL
            go_wp2_with fail
            refine (HEI.out _ _ P u8 (HKp.out.v.below HB9.out) (HKp.out.b.below HB9.out)).mono ?_
            rintro e u9 ⟨rfl, hb⟩
            have HB10 : Hid (Below u3.heap.size u3 u9) := bsq HB9.out hb
            clear hb HB9 HEI
            go_wp2_with fail
            refine (HEB.out _ _ _ u9 (HKp.out.a.below HB10.out) (HKp.out.w.below HB10.out)).mono ?_
            rintro e u10 ⟨rfl, hb⟩
            have HB11 : Hid (Below w.heap.size w u10) := bsq HBw.out (bsq HB10.out hb)
            clear hb HB10 HEB HKp HBw
            go_wp2
            go_ret
            exact ⟨rfl, HB11.out⟩
        · obtain ⟨ll, hll⟩ : ∃ ll, l.length = ll := ⟨_, rfl⟩
          rw [hll] at hnc ⊢
          have HB7 : Hid (∃ row : List Value, u6.heap[gl]? = some (bv 3 row) ∧ ll ≤ row.length ∧ Below u3.heap.size u3 u6) := ⟨cur.toList, by rw [hg]; simp [bv], by simp; omega, HB6.out.1⟩
          have hgl : u3.heap.size ≤ gl := Nat.le_trans HB6.out.2 hgB
          unfold maxLen at hcm
          clear hI hb hg hs ht hll HB5 HB6 HLo hgB
          go_wp2
          go_loopw [14, 52] (fun _ kv wr => ∃ k : Nat, k ≤ ll ∧ kv = .int .i64 (k : Int) ∧ Hid (∃ row : List Value, wr.heap[gl]? = some (bv 3 row) ∧ ll ≤ row.length ∧ Below u3.heap.size u3 wr)) (fun _ kv _ => ll - (intOf kv).toNat)
          case atStart => exact ⟨0, Nat.zero_le _, rfl, HB7.out⟩
          case round =>
            clear HB7
            obtain ⟨k, hk, rfl, HA⟩ := hrel
            by_cases hkl : ¬ k < ll
            · have HB8 : Hid (Below u3.heap.size u3 wr) := by obtain ⟨row, _, _, h⟩ := HA.out; exact h
              clear HA
              go_wp2_with fail
              refine (HL.out wr).mono ?_
              rintro e u8 ⟨rfl, hb⟩
              have HB9 : Hid (Below u3.heap.size u3 u8) := bsq HB8.out hb
              clear hb HB8 HL
              go_wp2_with fail
              refine (HEI.out _ _ P u8 (HKp.out.v.below HB9.out) (HKp.out.b.below HB9.out)).mono ?_
              rintro e u9 ⟨rfl, hb⟩
              have HB10 : Hid (Below u3.heap.size u3 u9) := bsq HB9.out hb
              clear hb HB9 HEI
              go_wp2_with fail
              refine (HEB.out _ _ _ u9 (HKp.out.a.below HB10.out) (HKp.out.w.below HB10.out)).mono ?_
              rintro e u10 ⟨rfl, hb⟩
              have HB11 : Hid (Below w.heap.size w u10) := bsq HBw.out (bsq HB10.out hb)
              clear hb HB10 HEB HKp HBw
              go_wp2
              go_ret
              exact ⟨rfl, HB11.out⟩
            have hkl : k < ll := by omega
            obtain ⟨row, h1, h2, h3⟩ := HA.out
            have hst := set_bv (j := k) (x := .int .i64 99) h1
            have HQ : Hid (∃ row : List Value, (wr.setCell ⟨gl, k, none⟩ (.int .i64 99)).heap[gl]? = some (bv 3 row) ∧ ll ≤ row.length ∧ Below u3.heap.size u3 (wr.setCell ⟨gl, k, none⟩ (.int .i64 99))) := ⟨_, hst.1, by rw [List.length_set]; exact h2, hst.2.below _ _ hgl h3⟩
            obtain ⟨y0, hy0⟩ : ∃ y0, row[k]? = some y0 := ⟨row[k]'(by omega), List.getElem?_eq_getElem _⟩
            have hct := bv_cell h1 hy0
            have hft := bv_free h1 k
            clear HA hst h1 h2 h3 hy0 HKp HL HEI HEB HBw
            go_wp2
            go_roundw
            case rel => exact ⟨k + 1, by omega, by go_num, HQ.out⟩
            case measure => simp [intOf]; omega
      have hkn : k < nb := by omega
      obtain ⟨row, h1, h2, h3⟩ := HA.out
      have HV : Hid (Vs (ivs [9, 0]) 2) := two_vs _ _
      have HLE : Hid (k * 2 + 2 ≤ row.length) := by show _ ≤ _; omega
      have HR1 : Hid (wr.heap[gb]? = some (bv 33 row)) := h1
      have HPL : Hid ((ptv row (k * 2) (ivs [9, 0])).length = nb * 2) := by show _ = _; rw [ptv_len (by simp [ivs]; omega), h2]
      have HB3 : Hid (Below u3.heap.size u3 wr) := h3
      clear HA h1 h2 h3 HKp HL HEI HEB HBw HLo
      repeat' (first | (go_big_may; first | (refine v_build rfl rfl bld_nine ?hbv ?_; (case hbv => simp [Act.eval, Act.put])) | (refine v_store rfl rfl row_berth rfl rfl HR1.out HV.out HLE.out rfl ?_; intro u hv hc; have hQ := hc.below _ _ hgs HB3.out; clear hc)) | go_values | go_skip | go_guarded | go_step | go_upon | (simp only [Int.not_lt, Int.not_le] at *; go_simp))
      go_roundw
      case rel => exact ⟨k + 1, by omega, by go_num, _, hv, HPL.out, hQ⟩
      case measure => simp [intOf]; omega
end Go.Proofs.Ytcenaleladjakab.budgetOwn
