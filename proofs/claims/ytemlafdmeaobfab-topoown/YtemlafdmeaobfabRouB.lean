/- route: what isNoPort, ContainsFunc and Check answer. -/
import Derived.Test.YtemlafdmeaobfabRouA
namespace Go.Proofs.Ytemlafdmeaobfab.route
open Go Go.RowKit
set_option linter.unusedVariables false
set_option linter.unusedSimpArgs false
set_option maxRecDepth 100000

def nop (n : Int) : Bool := decide (n < 1) || decide (15 < n)
theorem nop_no {n : Int} : nop n = false ↔ 1 ≤ n ∧ n ≤ 15 := by
  unfold nop
  simp
set_option maxHeartbeats 2000000 in
theorem isNo_any (n : Int) (w : World) : Calls Try.prog 48 #[.int .i64 n] w fun e w' => e = .returned (.bool (nop n)) ∧ w = w' := by
  unfold nop
  cases h1 : decide (n < 1) with
  | true => go_enter Try.func48, Try.ntmps48; go_wp2; go_ret; exact ⟨rfl, rfl⟩
  | false => cases h2 : decide (15 < n) <;> (go_enter Try.func48, Try.ntmps48; go_wp2; go_ret; exact ⟨rfl, rfl⟩)
def anyNo (P : List Int) : Bool := P.any nop
theorem any_at {l : List Int} {k : Nat} {y : Int} (h : l[k]? = some y) : (l.drop k).any nop = (nop y || (l.drop (k + 1)).any nop) := by
  have hk := (List.getElem?_eq_some_iff.1 h).1
  rw [List.drop_eq_getElem_cons hk, (List.getElem?_eq_some_iff.1 h).2, List.any_cons]
set_option maxHeartbeats 2000000 in
theorem indexFunc_any (v : Value) (l : List Int) (w : World) (hv : Ris w v l) (hl : l.length ≤ 1000) : Calls Try.prog 51 #[v, .func (.func 48) #[] #[]] w fun e w' => (∃ r : Int, e = .returned (.int .i64 r) ∧ decide (0 ≤ r) = anyNo l) ∧ w = w' := by
  obtain ⟨a, c, rfl, hlc, hcm⟩ := hv.form
  obtain ⟨n, hn⟩ : ∃ n, l.length = n := ⟨_, rfl⟩
  have HN : Hid (l.length = n) := hn
  rw [hn] at hv hlc hl ⊢
  have HR : Hid (Ris w (.slice a n c) l) := hv
  have HP : Hid ((l.drop 0).any nop = anyNo l) := rfl
  obtain ⟨P, hP⟩ : ∃ P, anyNo l = P := ⟨_, rfl⟩
  rw [hP] at HP ⊢
  unfold maxLen at hcm
  clear hv hn hP
  go_enter Try.func51, Try.ntmps51
  go_wp2
  go_loopw [5, 8] (fun _ i wr => ∃ k : Nat, k ≤ n ∧ i = .int .i64 (k : Int) ∧ w = wr ∧ Hid ((l.drop k).any nop = P)) (fun _ i _ => n - (intOf i).toNat)
  case atStart => exact ⟨0, Nat.zero_le _, rfl, rfl, HP.out⟩
  case round =>
    clear HP
    obtain ⟨k, hk, rfl, rfl, HA⟩ := hrel
    by_cases hlt : ¬ k < n
    · have HQ : Hid (P = false) := by
        have := HA.out
        rw [List.drop_eq_nil_of_le (by have := HN.out; omega)] at this
        exact this.symm
      clear HA
      go_wp2
      go_ret
      exact ⟨⟨_, rfl, by rw [HQ.out]; rfl⟩, rfl⟩
    have hlt : k < n := by omega
    obtain ⟨y, hy⟩ : ∃ y, l[k]? = some y := ⟨l[k]'(by have := HN.out; omega), List.getElem?_eq_getElem _⟩
    obtain ⟨g, off, rfl, hcell⟩ := HR.out.at k y hy
    have HA2 : Hid ((nop y || (l.drop (k + 1)).any nop) = P) := by have := HA.out; rw [any_at hy] at this; exact this
    clear HA hy
    go_wp2_with fail
    refine (isNo_any y w).mono ?_
    rintro e u ⟨rfl, rfl⟩
    cases hno : nop y with
    | true =>
      have HQ : Hid (P = true) := by have := HA2.out; rw [hno] at this; exact this.symm
      clear HA2
      go_wp2
      go_ret
      exact ⟨⟨_, rfl, by rw [HQ.out]; exact decide_eq_true (by omega)⟩, rfl⟩
    | false =>
      have HQ : Hid ((l.drop (k + 1)).any nop = P) := by have := HA2.out; rw [hno] at this; exact this
      clear HA2
      go_wp2
      go_roundw
      case rel => exact ⟨k + 1, by omega, by go_num, trivial, HQ.out⟩
      case measure => simp [intOf]; omega
theorem contains_any (v : Value) (l : List Int) (w : World) (hv : Ris w v l) (hl : l.length ≤ 1000) : Calls Try.prog 47 #[v, .func (.func 48) #[] #[]] w fun e w' => e = .returned (.bool (anyNo l)) ∧ w = w' := by
  have HI : Hid (Calls Try.prog 51 #[v, .func (.func 48) #[] #[]] w fun e w' => (∃ r : Int, e = .returned (.int .i64 r) ∧ decide (0 ≤ r) = anyNo l) ∧ w = w') := indexFunc_any v l w hv hl
  obtain ⟨d, hd⟩ : ∃ d, anyNo l = d := ⟨_, rfl⟩
  rw [hd] at HI ⊢
  clear hv hl hd
  go_enter Try.func47, Try.ntmps47
  go_wp2_with fail
  refine (HI.out).mono ?_
  rintro e u ⟨⟨r, rfl, hr⟩, rfl⟩
  go_wp2
  go_ret
  rw [← hr]
  exact ⟨by congr, rfl⟩
/-- what there is to say against a path -/
def chk (P : List Int) : Int := if P.length = 0 then 1 else if 6 < P.length then 2 else if anyNo P = true then 1 else 0
theorem chk_ok {P : List Int} (h : chk P = 0) : 1 ≤ P.length ∧ P.length ≤ 6 ∧ ∀ p ∈ P, 1 ≤ p ∧ p ≤ 15 := by
  unfold chk at h
  split at h
  · omega
  · split at h
    · omega
    · split at h
      · omega
      · rename_i h1 h2 h3
        refine ⟨by omega, by omega, fun p hp => ?_⟩
        refine nop_no.1 ?_
        cases q : nop p with
        | false => rfl
        | true => exact absurd (List.any_eq_true.2 ⟨p, hp, q⟩) h3
theorem ok_chk {P : List Int} (h1 : 1 ≤ P.length) (h2 : P.length ≤ 6) (h3 : ∀ p ∈ P, 1 ≤ p ∧ p ≤ 15) : chk P = 0 := by
  unfold chk
  rw [if_neg (by omega), if_neg (by omega), if_neg]
  intro q
  obtain ⟨p, hp, hn⟩ := List.any_eq_true.1 q
  rw [nop_no.2 (h3 p hp)] at hn
  cases hn
theorem chk_range (P : List Int) : chk P = 0 ∨ chk P = 1 ∨ chk P = 2 := by
  unfold chk
  split
  · simp
  · split
    · simp
    · split <;> simp
set_option maxHeartbeats 2000000 in
theorem check_any (v : Value) (P : List Int) (w : World) (hv : Ris w v P) : Calls Try.prog 41 #[v] w fun e w' => e = .returned (.int .i64 (chk P)) ∧ w = w' := by
  have HC : Hid (P.length ≤ 6 → Calls Try.prog 47 #[v, .func (.func 48) #[] #[]] w fun e w' => e = .returned (.bool (anyNo P)) ∧ w = w') := fun h => contains_any v P w hv (by omega)
  obtain ⟨a, c, rfl, hlc, hcm⟩ := hv.form
  obtain ⟨n, hn⟩ : ∃ n, P.length = n := ⟨_, rfl⟩
  unfold chk
  rw [hn] at HC hlc ⊢
  unfold maxLen at hcm
  clear hv hn
  by_cases h1 : n = 0
  · subst h1
    rw [if_pos rfl]
    clear HC
    go_enter Try.func41, Try.ntmps41
    go_wp2
    go_ret
    exact ⟨rfl, rfl⟩
  rw [if_neg h1]
  have h0 : ((n : Int) == 0) = false := by rw [beq_eq_false_iff_ne]; omega
  by_cases h3 : 6 < n
  · rw [if_pos h3]
    clear HC
    go_enter Try.func41, Try.ntmps41
    go_wp2
    go_ret
    exact ⟨rfl, rfl⟩
  rw [if_neg h3]
  have HC2 : Hid (Calls Try.prog 47 #[.slice a n c, .func (.func 48) #[] #[]] w fun e w' => e = .returned (.bool (anyNo P)) ∧ w = w') := HC.out (by omega)
  clear HC
  have h6 : n ≤ 6 := by omega
  cases hA : anyNo P with
  | true =>
    rw [hA] at HC2
    rw [if_pos rfl]
    go_enter Try.func41, Try.ntmps41
    go_wp2_with fail
    refine (HC2.out).mono ?_
    rintro e u ⟨rfl, rfl⟩
    go_wp2
    go_ret
    exact ⟨rfl, rfl⟩
  | false =>
    rw [hA] at HC2
    rw [if_neg (by simp)]
    go_enter Try.func41, Try.ntmps41
    go_wp2_with fail
    refine (HC2.out).mono ?_
    rintro e u ⟨rfl, rfl⟩
    go_wp2
    go_ret
    exact ⟨rfl, rfl⟩
end Go.Proofs.Ytemlafdmeaobfab.route
