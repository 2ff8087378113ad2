/- route: what common, Under, Meet and Hops answer. -/
import Derived.Test.YtemlafdmeaobfabRouA
namespace Go.Proofs.Ytemlafdmeaobfab.route
open Go Go.RowKit
set_option linter.unusedVariables false
set_option linter.unusedSimpArgs false
set_option maxRecDepth 100000

set_option maxHeartbeats 2000000 in
theorem common_drew (v1 v2 : Value) (ps qs : List Int) (w : World) (h1 : Ris w v1 ps) (h2 : Ris w v2 qs) :
    Calls Try.prog 38 #[v1, v2] w fun e w' => e = .returned (.int .i64 (com ps qs : Int)) ∧ ∃ m, w' = w.drewN m := by
  obtain ⟨a, c, rfl, hlc, hcm⟩ := h1.form
  obtain ⟨b, d, rfl, hld, hdm⟩ := h2.form
  have HA : Hid (Ris w (.slice a ps.length c) ps) := h1
  have HB : Hid (Ris w (.slice b qs.length d) qs) := h2
  unfold maxLen at hcm hdm
  clear h1 h2
  obtain ⟨p, hp⟩ : ∃ p, ps.length = p := ⟨_, rfl⟩
  obtain ⟨q, hq⟩ : ∃ q, qs.length = q := ⟨_, rfl⟩
  have HN : Hid (ps.length = p) := hp
  have HM : Hid (qs.length = q) := hq
  obtain ⟨n, hn⟩ : ∃ n, min p q = n := ⟨_, rfl⟩
  have hmin : (if (q : Int) < (p : Int) then (q : Int) else (p : Int)) = (n : Int) := by split <;> omega
  have hmin2 : (if q < p then (q : Int) else (p : Int)) = (n : Int) := by split <;> omega
  rw [hp] at HA hlc ⊢
  rw [hq] at HB hld ⊢
  have HK : Hid (n ≤ p ∧ n ≤ q ∧ n = min p q) := ⟨by omega, by omega, by omega⟩
  have hnb : (n : Int) ≤ 9223372036854775807 := by omega
  obtain ⟨z, hz⟩ : ∃ z, com ps qs = z := ⟨_, rfl⟩
  have HZ : Hid (com ps qs = z) := hz
  rw [hz]
  clear hp hq hn hz
  go_enter Try.func38, Try.ntmps38
  go_wp2
  go_loopw [6, 13] (fun _ i wr => ∃ (k m : Nat), k ≤ n ∧ i = .int .i64 (k : Int) ∧ wr = w.drewN m ∧ Hid (ps.take k = qs.take k)) (fun _ i _ => n - (intOf i).toNat)
  case atStart => exact ⟨0, 0, Nat.zero_le _, rfl, rfl, rfl⟩
  case round =>
    obtain ⟨k, m, hk, rfl, rfl, HR⟩ := hrel
    by_cases hlt : ¬ k < n
    · have hkn : k = n := by omega
      have HE : Hid (z = n) := by
        show z = n
        rw [← HZ.out]
        exact com_end (hkn ▸ HR.out) (by rw [HN.out, HM.out]; exact HK.out.2.2)
      clear HA HB HN HM HK HR HZ
      go_wp2
      go_ret
      rw [HE.out]
      exact ⟨rfl, _, rfl⟩
    have hlt : k < n := by omega
    have hk1 : k < ps.length := by have := HN.out; have := HK.out; omega
    have hk2 : k < qs.length := by have := HM.out; have := HK.out; omega
    obtain ⟨g, off, rfl, c0⟩ := HA.out.at k ps[k] (List.getElem?_eq_getElem hk1)
    obtain ⟨g', off', rfl, d0⟩ := HB.out.at k qs[k] (List.getElem?_eq_getElem hk2)
    have hx := List.getElem?_eq_getElem hk1
    have hy := List.getElem?_eq_getElem hk2
    have hkp : k < p := by have := HK.out; omega
    have hkq : k < q := by have := HK.out; omega
    generalize ps[k] = x at c0 hx
    generalize qs[k] = y at d0 hy
    by_cases hxy : x = y
    · subst hxy
      have HR2 : Hid (ps.take (k + 1) = qs.take (k + 1)) := take_next HR.out hx hy
      have hneq : (x != x) = false := by simp
      clear HA HB HN HM HR HK HZ hx hy hk1 hk2
      go_wp2
      go_region
      go_wp2
      go_roundw
      case rel => exact ⟨k + 1, m + _, by omega, by go_num, rfl, HR2.out⟩
      case measure => simp [intOf]; omega
    · have HR2 : Hid (z = k) := by
        show z = k
        rw [← HZ.out]
        exact com_at HR.out hx hy hxy
      have hneq : (x != y) = true := by simpa using hxy
      clear HA HB HN HM HR HK HZ hx hy hk1 hk2 hxy
      go_wp2
      go_region
      go_wp2
      go_ret
      rw [HR2.out]
      exact ⟨rfl, _, rfl⟩
theorem common_any (v1 v2 : Value) (ps qs : List Int) (w : World) (h1 : Ris w v1 ps) (h2 : Ris w v2 qs) :
    Calls Try.prog 38 #[v1, v2] w fun e w' => e = .returned (.int .i64 (com ps qs : Int)) ∧ Below w.heap.size w w' :=
  (common_drew v1 v2 ps qs w h1 h2).mono fun e w' ⟨he, m, hw⟩ => ⟨he, by rw [hw]; exact below_drewN (Below.refl _ _) m⟩
set_option maxHeartbeats 2000000 in
theorem under_any (v1 v2 : Value) (ps qs : List Int) (w : World) (h1 : Ris w v1 ps) (h2 : Ris w v2 qs) :
    Calls Try.prog 26 #[v1, v2] w fun e w' => e = .returned (.bool (und ps qs)) ∧ Below w.heap.size w w' := by
  have HC : Hid (Calls Try.prog 38 #[v1, v2] w fun e w' => e = .returned (.int .i64 (com ps qs : Int)) ∧ Below w.heap.size w w') := common_any v1 v2 ps qs w h1 h2
  have hle := com_le ps qs
  obtain ⟨b, d, rfl, hld, hdm⟩ := h2.form
  obtain ⟨z, hz⟩ : ∃ z, com ps qs = z := ⟨_, rfl⟩
  obtain ⟨q, hq⟩ : ∃ q, qs.length = q := ⟨_, rfl⟩
  have e : und ps qs = ((z : Int) == (q : Int)) := by
    unfold und
    rw [hz, hq, Bool.eq_iff_iff, beq_iff_eq, beq_iff_eq]
    omega
  rw [e]
  rw [hz, hq] at HC
  rw [hq] at hld hle ⊢
  rw [hz] at hle
  unfold maxLen at hdm
  obtain ⟨t, ht⟩ : ∃ t, ((z : Int) == (q : Int)) = t := ⟨_, rfl⟩
  rw [ht]
  clear h1 h2 hz hq e
  go_enter Try.func26, Try.ntmps26
  go_wp2_with fail
  refine (HC.out).mono ?_
  rintro e u ⟨rfl, hb⟩
  have HBl : Hid (Below w.heap.size w u) := hb
  clear hb HC
  go_wp2
  go_ret
  exact ⟨rfl, HBl.out⟩
end Go.Proofs.Ytemlafdmeaobfab.route
