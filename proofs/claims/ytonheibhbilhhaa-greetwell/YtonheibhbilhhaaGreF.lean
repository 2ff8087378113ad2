/- greet: fates: what CheckFates answers of them. -/
import Derived.Test.YtonheibhbilhhaaGreA
namespace Go.Proofs.Ytonheibhbilhhaa.greet
open Go.RowKit
set_option linter.unusedVariables false
set_option linter.unusedSimpArgs false
set_option maxRecDepth 100000

def fateB (n : Int) : Bool := n == 1 || n == 2 || n == 3 || n == 4 || n == 5
theorem fate_iff (f : Int) : fateB f = true ↔ 1 ≤ f ∧ f ≤ 5 := by
  unfold fateB
  simp only [Bool.or_eq_true, beq_iff_eq]
  omega
theorem isFate_any (n : Int) (w : World) : Calls Try.prog 85 #[.int .i64 n] w fun e w' => e = .returned (.bool (fateB n)) ∧ w = w' := by
  unfold fateB
  cases h1 : (n == 1)
  case true => go_enter Try.func85, Try.ntmps85; go_wp2; go_ret; exact ⟨rfl, rfl⟩
  cases h2 : (n == 2)
  case true => go_enter Try.func85, Try.ntmps85; go_wp2; go_ret; exact ⟨rfl, rfl⟩
  cases h3 : (n == 3)
  case true => go_enter Try.func85, Try.ntmps85; go_wp2; go_ret; exact ⟨rfl, rfl⟩
  cases h4 : (n == 4)
  case true => go_enter Try.func85, Try.ntmps85; go_wp2; go_ret; exact ⟨rfl, rfl⟩
  cases h5 : (n == 5)
  case true => go_enter Try.func85, Try.ntmps85; go_wp2; go_ret; exact ⟨rfl, rfl⟩
  go_enter Try.func85, Try.ntmps85; go_wp2; go_ret; exact ⟨rfl, rfl⟩
/-- a slice that reads as these numbers -/
def Ris (w : World) (v : Value) (l : List Int) : Prop :=
  ∃ a c, v = .slice a l.length c ∧ l.length ≤ c ∧ c ≤ maxLen ∧ (0 < l.length → ∃ g off, a = some ⟨g, off, none⟩ ∧ g < w.heap.size ∧ ∀ j x, l[j]? = some x → w.cell? ⟨g, off + j, none⟩ = some (.int .i64 x))
theorem Ris.below {w u : World} {v : Value} {l : List Int} (h : Ris w v l) (hb : Below w.heap.size w u) : Ris u v l := by
  obtain ⟨a, c, hv, h1, h2, h4⟩ := h
  refine ⟨a, c, hv, h1, h2, fun hn => ?_⟩
  obtain ⟨g, off, ha, hg, hc⟩ := h4 hn
  exact ⟨g, off, ha, Nat.lt_of_lt_of_le hg hb.size, fun j x hx => (hb.cell (p := ⟨g, off + j, none⟩) hg).trans (hc j x hx)⟩
/-- a number of it -/
theorem Ris.at {w : World} {a : Option Addr} {n c : Nat} {l : List Int} (h : Ris w (.slice a n c) l) (k : Nat) (x : Int) (hk : l[k]? = some x) : ∃ g off, a = some ⟨g, off, none⟩ ∧ ∀ u, Below w.heap.size w u → u.cell? ⟨g, off + k, none⟩ = some (.int .i64 x) := by
  obtain ⟨a', c', hv, h1, h2, h4⟩ := h
  have hl := (List.getElem?_eq_some_iff.1 hk).1
  obtain ⟨g, off, ha, hg, hc⟩ := h4 (by omega)
  have : a = a' := by injection hv
  exact ⟨g, off, this.trans ha, fun u hu => (hu.cell (p := ⟨g, off + k, none⟩) hg).trans (hc k x hk)⟩
theorem all_drop {F : List Int} {k : Nat} (h : k < F.length) : (F.drop k).all fateB = (fateB F[k] && (F.drop (k + 1)).all fateB) := by
  rw [List.drop_eq_getElem_cons h, List.all_cons]
/-- what CheckFates answers -/
def ckF (F : List Int) : Int := if 1000 < F.length then 2 else if F.all fateB = false then 1 else 0
set_option maxHeartbeats 2000000 in
theorem fates_any (vF : Value) (F : List Int) (w : World) (hF : Ris w vF F) : Calls Try.prog 67 #[vF] w fun e w' => e = .returned (.int .i64 (ckF F)) ∧ w = w' := by
  obtain ⟨fa, fc, hv, _, hfm, _⟩ := id hF
  subst hv
  obtain ⟨fn, hfn⟩ : ∃ n, F.length = n := ⟨_, rfl⟩
  have HFN : Hid (F.length = fn) := hfn
  rw [hfn] at hF ⊢
  have HF : Hid (Ris w (.slice fa fn fc) F) := hF
  have HIF : Hid (∀ (x : Int) (u : World), Calls Try.prog 85 #[.int .i64 x] u fun e w' => e = .returned (.bool (fateB x)) ∧ u = w') := fun x u => isFate_any x u
  obtain ⟨z, hz⟩ : ∃ z, ckF F = z := ⟨_, rfl⟩
  have HZ : Hid ((if 1000 < fn then 2 else if F.all fateB = false then 1 else 0) = z) := by show _ = _; rw [← hz, ← hfn]; rfl
  rw [hz]
  unfold maxLen at hfm
  clear hF hfn hz
  by_cases hf : 1000 < fn
  · have HZ2 : Hid ((2 : Int) = z) := by have := HZ.out; rw [if_pos hf] at this; exact this
    have e1 : decide ((fn : Int) > 1000) = true := by rw [decide_eq_true_eq]; omega
    clear HZ hf
    go_enter Try.func67, Try.ntmps67
    go_wp2
    go_ret
    rw [← HZ2.out]
    exact ⟨rfl, rfl⟩
  have HZ2 : Hid ((if F.all fateB = false then (1 : Int) else 0) = z) := by have := HZ.out; rw [if_neg hf] at this; exact this
  have e1 : decide ((fn : Int) > 1000) = false := by rw [decide_eq_false_iff_not]; omega
  have hfn : fn ≤ 1000 := by omega
  clear hf HZ hfm
  go_enter Try.func67, Try.ntmps67
  go_wp2
  go_loopw [10] (fun i wr => ∃ k : Nat, k ≤ fn ∧ i = .int .i64 (k : Int) ∧ w = wr ∧ Hid ((F.drop k).all fateB = F.all fateB)) (fun i _ => fn - (intOf i).toNat)
  case atStart => exact ⟨0, Nat.zero_le _, rfl, rfl, rfl⟩
  case round =>
    obtain ⟨k, hk, rfl, rfl, HA⟩ := hrel
    by_cases hlt : ¬ k < fn
    · have HAll : Hid (F.all fateB = true) := by have := HA.out; rw [List.drop_eq_nil_of_le (by have := HFN.out; omega)] at this; exact this.symm
      have HZ3 : Hid ((0 : Int) = z) := by have := HZ2.out; rw [HAll.out, if_neg (by decide)] at this; exact this
      clear HA HAll HZ2
      go_wp2
      go_ret
      rw [← HZ3.out]
      exact ⟨rfl, rfl⟩
    · have hlt : k < fn := by omega
      have hkF : k < F.length := by have := HFN.out; omega
      obtain ⟨x, hx⟩ : ∃ x, F[k]? = some x := ⟨F[k], List.getElem?_eq_getElem hkF⟩
      have hxk : F[k] = x := (List.getElem?_eq_some_iff.1 hx).2
      obtain ⟨g, off, rfl, hcell⟩ := HF.out.at k x hx
      have cF := hcell w (Below.refl _ _)
      have HA2 : Hid ((fateB x && (F.drop (k + 1)).all fateB) = F.all fateB) := by have := HA.out; rw [all_drop hkF, hxk] at this; exact this
      have HI : Hid (∀ (u : World), Calls Try.prog 85 #[.int .i64 x] u fun e w' => e = .returned (.bool (fateB x)) ∧ u = w') := HIF.out x
      clear hcell hx hxk hkF HA
      cases hb : fateB x
      · rw [hb] at HI HA2
        have HZ3 : Hid ((1 : Int) = z) := by
          have h0 : F.all fateB = false := by have := HA2.out; rw [Bool.false_and] at this; exact this.symm
          have := HZ2.out; rw [if_pos h0] at this; exact this
        clear HA2 hb HZ2
        go_wp2_with fail
        refine (HI.out _).mono ?_
        rintro e u ⟨rfl, rfl⟩
        go_wp2
        go_ret
        rw [← HZ3.out]
        exact ⟨rfl, rfl⟩
      · rw [hb] at HI HA2
        have HA3 : Hid ((F.drop (k + 1)).all fateB = F.all fateB) := by have := HA2.out; rw [Bool.true_and] at this; exact this
        clear HA2 hb
        go_wp2_with fail
        refine (HI.out _).mono ?_
        rintro e u ⟨rfl, rfl⟩
        go_wp2
        go_roundw
        case rel => exact ⟨k + 1, by omega, by go_num, trivial, HA3.out⟩
        case measure => simp [intOf]; omega