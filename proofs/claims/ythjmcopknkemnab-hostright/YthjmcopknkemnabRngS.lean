/- slices.Equal of cells; marks and cells compared; plugref.SameRing. -/
import Derived.Test.YthjmcopknkemnabRngG
import Derived.Lib.SliceRun
import Derived.Laws.StructEq
namespace Go.Proofs.Ythjmcopknkemnab.ring
open Go.RowKit
set_option linter.unusedVariables false
set_option linter.unusedSimpArgs false
set_option maxRecDepth 100000

theorem undC : Try.prog.underlying 78 = some (.struct (Try.prog.fieldsOf 78)) := by kernel_rfl
theorem stoodC : Try.prog.stoodInHeld 78 = false := by kernel_rfl
theorem eq_ce (a b a' b' : Int) (l l' : Bool) (w : World) : (Op.equalIn 10000 78 (ceV a b l) (ceV a' b' l')).run Try.prog w = .ok (a == a' && (b == b' && l == l')) w := by
  rw [run_equalIn_struct w 9999 78 _ _ undC stoodC]
  simp [go_sem]
  by_cases h1 : a = a' <;> by_cases h2 : b = b' <;> cases l <;> cases l' <;> simp [h1, h2]
theorem neq_ce (a b a' b' : Int) (l l' : Bool) (w : World) : (binOp .neq 78 (ceV a b l) (ceV a' b' l')).run Try.prog w = .ok (.bool (!(a == a' && (b == b' && l == l')))) w := by
  rw [run_neq_struct, eq_ce]; rfl
theorem undM : Try.prog.underlying 24 = some (.struct (Try.prog.fieldsOf 24)) := by kernel_rfl
theorem stoodM : Try.prog.stoodInHeld 24 = false := by kernel_rfl
theorem eq_mk (p s q t : Int) (w : World) : (Op.equalIn 10000 24 (mkV p s) (mkV q t)).run Try.prog w = .ok (p == q && s == t) w := by
  rw [run_equalIn_struct w 9999 24 _ _ undM stoodM]
  simp [go_sem]
  by_cases h1 : p = q <;> by_cases h2 : s = t <;> simp [h1, h2]
theorem eql_mk (p s q t : Int) (w : World) : (binOp .eql 24 (mkV p s) (mkV q t)).run Try.prog w = .ok (.bool (p == q && s == t)) w := by
  rw [run_eql_struct, eq_mk]; rfl
theorem neq_mk (p s q t : Int) (w : World) : (binOp .neq 24 (mkV p s) (mkV q t)).run Try.prog w = .ok (.bool (!(p == q && s == t))) w := by
  rw [run_neq_struct, eq_mk]; rfl
set_option maxHeartbeats 2000000 in
theorem equalC_drew (v1 v2 : Value) (ps qs : List Ce) (w : World) (h1 : Rcs w v1 ps) (h2 : Rcs w v2 qs) :
    Calls Try.prog 40 #[v1, v2] w fun e w' => e = .returned (.bool (decide (ps = qs))) ∧ ∃ m, w' = w.drewN m := by
  obtain ⟨a, c, rfl, hlc, hcm⟩ := h1.form
  obtain ⟨b, d, rfl, hld, hdm⟩ := h2.form
  have HA : Hid (Rcs w (.slice a ps.length c) ps) := h1
  have HB : Hid (Rcs w (.slice b qs.length d) qs) := h2
  unfold maxLen at hcm hdm
  clear h1 h2
  by_cases hlen : ps.length = qs.length
  · have HL : Hid (ps.length = qs.length) := hlen
    obtain ⟨n, hn⟩ : ∃ n, ps.length = n := ⟨_, rfl⟩
    have hm : qs.length = n := by omega
    have HN : Hid (ps.length = n) := hn
    rw [hn] at HA
    rw [hm] at HB
    have HM : Hid (qs.length = n) := hm
    rw [hn] at hlc
    rw [hm] at hld
    rw [hn, hm]
    clear hn hm hlen
    go_enter Try.func40, Try.ntmps40
    go_wp2
    go_loopw [13] (fun i wr => ∃ (k q : Nat), k ≤ n ∧ i = .int .i64 (k : Int) ∧ wr = w.drewN q ∧ Hid (decide (ps.drop k = qs.drop k) = decide (ps = qs))) (fun i _ => n - (intOf i).toNat)
    case atStart => exact ⟨0, 0, Nat.zero_le _, rfl, rfl, rfl⟩
    case round =>
      obtain ⟨k, q, hk, rfl, rfl, HR⟩ := hrel
      by_cases hlt : k < n
      · have hk1 : k < ps.length := by have := HN.out; omega
        have hk2 : k < qs.length := by have := HM.out; omega
        obtain ⟨g, off, rfl, hca⟩ := HA.out.at k ps[k] (List.getElem?_eq_getElem hk1)
        obtain ⟨g', off', rfl, hcb⟩ := HB.out.at k qs[k] (List.getElem?_eq_getElem hk2)
        obtain ⟨c0, c1, c2⟩ := hca w (Below.refl _ _)
        obtain ⟨d0, d1, d2⟩ := hcb w (Below.refl _ _)
        have hR := HR.out
        rw [List.drop_eq_getElem_cons hk1, List.drop_eq_getElem_cons hk2] at hR
        generalize ps[k] = x at c0 c1 c2 hR
        generalize qs[k] = y at d0 d1 d2 hR
        by_cases hxy : x = y
        · subst hxy
          have HR2 : Hid (decide (ps.drop (k + 1) = qs.drop (k + 1)) = decide (ps = qs)) := by
            show _ = _
            rw [← hR]; simp
          obtain ⟨x1, x2, x3⟩ := x
          simp only at c0 c1 c2 d0 d1 d2
          have hneq : ∀ u, (binOp .neq 78 (ceV x1 x2 x3) (ceV x1 x2 x3)).run Try.prog u = .ok (.bool false) u := fun u => by rw [neq_ce]; simp
          clear HA HB HL HN HM HR hR hca hcb
          go_wp2
          go_region
          go_wp2
          go_roundw
          case rel => exact ⟨k + 1, q + _, by omega, by go_num, rfl, HR2.out⟩
          case measure => simp [intOf]; omega
        · have HR2 : Hid (false = decide (ps = qs)) := by
            show _ = _
            rw [← hR]; symm; rw [decide_eq_false_iff_not]
            intro h; exact hxy (by injection h)
          obtain ⟨x1, x2, x3⟩ := x
          obtain ⟨y1, y2, y3⟩ := y
          simp only at c0 c1 c2 d0 d1 d2
          have hneq : ∀ u, (binOp .neq 78 (ceV x1 x2 x3) (ceV y1 y2 y3)).run Try.prog u = .ok (.bool true) u := fun u => by
            rw [neq_ce, show (x1 == y1 && (x2 == y2 && x3 == y3)) = false by
              rw [Bool.and_eq_false_iff, Bool.and_eq_false_iff, beq_eq_false_iff_ne, beq_eq_false_iff_ne, beq_eq_false_iff_ne]
              by_cases q : x1 = y1
              · by_cases q' : x2 = y2
                · exact .inr (.inr fun q2 => hxy (by rw [q, q', q2]))
                · exact .inr (.inl q')
              · exact .inl q]
            rfl
          clear HA HB HL HN HM HR hR hxy hca hcb
          go_wp2
          go_region
          go_wp2
          go_ret
          rw [← HR2.out]
          exact ⟨rfl, _, rfl⟩
      · have hR := HR.out
        rw [List.drop_eq_nil_of_le (by have := HN.out; omega), List.drop_eq_nil_of_le (by have := HM.out; omega)] at hR
        have HR2 : Hid (true = decide (ps = qs)) := by show _ = _; rw [← hR]; simp
        clear HA HB HL HN HM HR hR
        go_wp2
        go_ret
        rw [← HR2.out]
        exact ⟨rfl, _, rfl⟩
  · have e : decide (ps = qs) = false := by rw [decide_eq_false_iff_not]; intro h; exact hlen (by rw [h])
    rw [e]
    have hne : ((ps.length : Int) != (qs.length : Int)) = true := by rw [bne_iff_ne]; omega
    generalize ps.length = n at *
    generalize qs.length = m at *
    clear HA HB e hlen
    go_enter Try.func40, Try.ntmps40
    go_wp2
    go_ret
    exact ⟨rfl, 0, rfl⟩
theorem equalC_any (v1 v2 : Value) (ps qs : List Ce) (w : World) (h1 : Rcs w v1 ps) (h2 : Rcs w v2 qs) :
    Calls Try.prog 40 #[v1, v2] w fun e w' => e = .returned (.bool (decide (ps = qs))) ∧ Below w.heap.size w w' :=
  (equalC_drew v1 v2 ps qs w h1 h2).mono fun e w' ⟨he, m, hw⟩ => ⟨he, by rw [hw]; exact below_drewN (Below.refl _ _) m⟩
abbrev rgW' (v : Value) (r : Rg) : Value := rgV v r.pa r.pb r.ga r.gb r.sn
def samB (a b : Rg) : Bool := (a.pa == b.pa && a.pb == b.pb) && ((a.ga == b.ga && a.gb == b.gb) && ((a.sn == b.sn) && decide (a.C = b.C)))
theorem samB_same (a : Rg) : samB a a = true := by simp [samB]
set_option maxHeartbeats 4000000 in
theorem same_any (a b : Rg) (v1 v2 : Value) (w : World) (h1 : Rcs w v1 a.C) (h2 : Rcs w v2 b.C) :
    Calls Try.prog 17 #[rgV v1 a.pa a.pb a.ga a.gb a.sn, rgV v2 b.pa b.pb b.ga b.gb b.sn] w fun e w' => e = .returned (.bool (samB a b)) ∧ Below w.heap.size w w' := by
  obtain ⟨w1, hw1, hX1, hb1⟩ := named w (rgO v1 a.pa a.pb a.ga a.gb a.sn)
  obtain ⟨w2, hw2, hX2, hb2⟩ := named w1 (rgO v2 b.pa b.pb b.ga b.gb b.sn)
  have hX12 := keep hX1 hb2
  have HB2 : Hid (Below w.heap.size w w2) := bsq hb1 hb2
  have HE : Hid (Calls Try.prog 40 #[v1, v2] w2 fun e w' => e = .returned (.bool (decide (a.C = b.C))) ∧ Below w2.heap.size w2 w') := equalC_any v1 v2 a.C b.C w2 (h1.below (bsq hb1 hb2)) (h2.below (bsq hb1 hb2))
  obtain ⟨a1, c1, n1, rfl⟩ : ∃ a c n, v1 = .slice a n c := by obtain ⟨a, c, h, _⟩ := h1; exact ⟨_, _, _, h⟩
  obtain ⟨a2, c2, n2, rfl⟩ : ∃ a c n, v2 = .slice a n c := by obtain ⟨a, c, h, _⟩ := h2; exact ⟨_, _, _, h⟩
  obtain ⟨⟨hz, x0, x1, x2, x3, x4, x5⟩, _⟩ := box6 hX12
  obtain ⟨⟨hz', y0, y1, y2, y3, y4, y5⟩, _⟩ := box6 hX2
  have q1 := fun u => eql_mk a.pa a.pb b.pa b.pb u
  have q2 := fun u => eql_mk a.ga a.gb b.ga b.gb u
  unfold samB
  generalize decide (a.C = b.C) = d at *
  obtain ⟨aC, apa, apb, aga, agb, asn⟩ := a
  obtain ⟨bC, bpa, bpb, bga, bgb, bsn⟩ := b
  simp only at x0 x1 x2 x3 x4 x5 y0 y1 y2 y3 y4 y5 q1 q2 ⊢
  clear h1 h2 hX1 hX2 hX12 hb1 hb2
  cases hs1 : (apa == bpa && apb == bpb)
  · rw [hs1] at q1
    clear HE hs1 q2
    go_enter Try.func17, Try.ntmps17
    go_wp2
    go_ret
    exact ⟨rfl, HB2.out⟩
  rw [hs1] at q1
  cases hs2 : (aga == bga && agb == bgb)
  · rw [hs2] at q2
    clear HE hs1 hs2
    go_enter Try.func17, Try.ntmps17
    go_wp2
    go_ret
    exact ⟨rfl, HB2.out⟩
  rw [hs2] at q2
  cases hs3 : (asn == bsn)
  · clear HE hs1 hs2
    go_enter Try.func17, Try.ntmps17
    go_wp2
    go_ret
    exact ⟨rfl, HB2.out⟩
  clear hs1 hs2
  go_enter Try.func17, Try.ntmps17
  go_wp2_with fail
  refine HE.out.mono ?_
  rintro e u ⟨rfl, hb⟩
  have HB : Hid (Below w.heap.size w u) := bsq HB2.out hb
  clear hb HE HB2
  go_wp2
  go_ret
  exact ⟨rfl, HB.out⟩
end Go.Proofs.Ythjmcopknkemnab.ring
