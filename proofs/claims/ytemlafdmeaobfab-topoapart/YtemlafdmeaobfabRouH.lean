/- route: what plugref's Beginning and Before answer. -/
import Derived.Test.YtemlafdmeaobfabRouA
import Derived.Deep.RegionWith
namespace Go.Proofs.Ytemlafdmeaobfab.route
open Go Go.RowKit
set_option linter.unusedVariables false
set_option linter.unusedSimpArgs false
set_option maxRecDepth 100000

theorem begin_at {a b : List Int} {n : Nat} (h : com a b ≤ n) (ha : n ≤ a.length) (hb : n ≤ b.length) (he : a.take n = b.take n) : com a b = n :=
  Nat.le_antisymm h ((le_com n a b).2 ⟨ha, hb, he⟩)
theorem begin_no {a b : List Int} {n : Nat} (h : com a b ≤ n) (he : a.take n ≠ b.take n) : com a b ≤ n - 1 := by
  have : com a b ≠ n := fun q => he (q ▸ com_take a b)
  omega
set_option maxHeartbeats 4000000 in
theorem beginning_any (v1 v2 : Value) (ps qs : List Int) (w : World) (h1 : Ris w v1 ps) (h2 : Ris w v2 qs) (hl : ps.length ≤ 1000) (hl2 : qs.length ≤ 1000) :
    Calls Try.prog 12 #[v1, v2] w fun e w' => ∃ v, e = .returned v ∧ Ris w' v (meet ps qs) ∧ Below w.heap.size w w' := by
  obtain ⟨a, c, rfl, hlc, hcm⟩ := h1.form
  obtain ⟨b, d, rfl, hld, hdm⟩ := h2.form
  have HA : Hid (Ris w (.slice a ps.length c) ps) := h1
  have HB : Hid (Ris w (.slice b qs.length d) qs) := h2
  unfold maxLen at hcm hdm
  clear h1 h2
  obtain ⟨p, hp⟩ : ∃ p, ps.length = p := ⟨_, rfl⟩
  obtain ⟨q, hq⟩ : ∃ q, qs.length = q := ⟨_, rfl⟩
  have HN : Hid (ps.length = p) := hp
  have HM : Hid (qs.length = q) := hq
  obtain ⟨n, hn⟩ : ∃ n, min p q = n := ⟨_, rfl⟩
  rw [hp] at HA hlc hl ⊢
  rw [hq] at HB hld hl2 ⊢
  have hmin : (if (q : Int) < (p : Int) then (q : Int) else (p : Int)) = (n : Int) := by split <;> omega
  have hmin2 : (if q < p then (q : Int) else (p : Int)) = (n : Int) := by split <;> omega
  have HK : Hid (n ≤ p ∧ n ≤ q ∧ com ps qs ≤ n) := ⟨by omega, by omega, by have := com_le ps qs; omega⟩
  have hnb : n ≤ 1000 := by omega
  clear hp hq hn
  go_enter Try.func12, Try.ntmps12
  go_wp2
  go_loopw [5] (fun i wr => ∃ (k m : Nat), k ≤ n ∧ i = .int .i64 (k : Int) ∧ wr = w.drewN m ∧ Hid (com ps qs ≤ k)) (fun i _ => (intOf i).toNat)
  case atStart => exact ⟨n, 0, Nat.le_refl _, rfl, rfl, HK.out.2.2⟩
  case round =>
    obtain ⟨k, m, hk, rfl, rfl, HC⟩ := hrel
    by_cases hlt : ¬ 0 < k
    · have hk0 : k = 0 := by omega
      subst hk0
      have HE : Hid (meet ps qs = []) := by
        show meet ps qs = []
        unfold meet
        have := HC.out
        rw [show com ps qs = 0 by omega]
        rfl
      clear HA HB HN HM HK HC
      go_wp2
      go_ret
      rw [HE.out]
      exact ⟨_, rfl, (Iw.nil _ 0).ris, below_drewN (Below.refl _ _) _⟩
    have hlt : 0 < k := by omega
    obtain ⟨s1, r1⟩ := Ris.upto HA.out k (by have := HK.out; omega)
    obtain ⟨s2, r2⟩ := Ris.upto HB.out k (by have := HK.out; omega)
    have hd : Below w.heap.size w (w.drewN m) := below_drewN (Below.refl _ _) _
    have HE : Hid (∀ u, (∃ j, u = w.drewN j) → Calls Try.prog 8 #[.slice a k c, .slice b k d] u fun e w' => e = .returned (.bool (decide (ps.take k = qs.take k))) ∧ ∃ m, w' = u.drewN m) := fun u hu => by
      obtain ⟨j, rfl⟩ := hu
      have hd : Below w.heap.size w (w.drewN j) := below_drewN (Below.refl _ _) _
      exact equalI_drew _ _ _ _ _ (r1.below hd) (r2.below hd)
    have HR1 : Hid (Ris w (.slice a k c) (ps.take k)) := r1
    have hkp : k ≤ p := by have := HK.out; omega
    have hkq : k ≤ q := by have := HK.out; omega
    by_cases he : ps.take k = qs.take k
    · have HF : Hid (meet ps qs = ps.take k) := by
        show meet ps qs = _
        unfold meet
        rw [begin_at HC.out (by rw [HN.out]; exact hkp) (by rw [HM.out]; exact hkq) he]
      have hdec : decide (ps.take k = qs.take k) = true := decide_eq_true he
      rw [hdec] at HE
      clear HA HB HN HM HK HC r1 r2 he hdec hd
      go_wp2
      go_region_with (go_at_call 8; refine (HE.out _ ⟨m + 1, by simp [World.drewN, World.drew, Nat.add_assoc]⟩).mono ?_; rintro e u ⟨rfl, j, rfl⟩)
      go_wp2
      go_ret
      rw [HF.out]
      exact ⟨_, rfl, HR1.out.below (below_drewN (Below.refl _ _) _), below_drewN (Below.refl _ _) _⟩
    · have HF : Hid (com ps qs ≤ k - 1) := begin_no HC.out he
      have hdec : decide (ps.take k = qs.take k) = false := decide_eq_false he
      rw [hdec] at HE
      obtain ⟨r, hr⟩ : ∃ r, k - 1 = r := ⟨_, rfl⟩
      rw [hr] at HF
      have hkr : (k : Int) - 1 = (r : Int) := by omega
      have HRn : Hid (r ≤ n ∧ r < k) := ⟨by omega, by omega⟩
      clear HA HB HN HM HK HC r1 r2 he hdec hd hr HR1
      go_wp2
      go_region_with (go_at_call 8; refine (HE.out _ ⟨m + 1, by simp [World.drewN, World.drew, Nat.add_assoc]⟩).mono ?_; rintro e u ⟨rfl, j, rfl⟩)
      go_wp2
      go_roundw
      case rel => exact ⟨r, m + 1 + j, HRn.out.1, by first | rfl | go_num, by simp [World.drewN, Nat.add_assoc], HF.out⟩
      case measure => have := HRn.out; simp [intOf]; omega
end Go.Proofs.Ytemlafdmeaobfab.route
