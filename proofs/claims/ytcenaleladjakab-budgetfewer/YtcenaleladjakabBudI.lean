/- budget: what isNoPeriod, checkTasks, byPeriod and roomsOf answer. -/
import Derived.Test.YtcenaleladjakabBudH
import Derived.BigQuiet
import Derived.Laws.BitsAllLaws
import Derived.Laws.BitsLemmas
namespace Go.Proofs.Ytcenaleladjakab.budget
open Go Go.RowKit
set_option linter.unusedVariables false
set_option linter.unusedSimpArgs false
set_option maxRecDepth 100000

def nop (n : Int) : Bool := !(n == 1 || n == 2 || n == 4 || n == 8 || n == 16 || n == 32)
theorem nop_iff {n : Int} : nop n = false ↔ (0 ≤ n ∧ okp n.toNat = true) := by
  unfold nop
  rw [okp_iff]
  simp
  omega
set_option maxHeartbeats 2000000 in
theorem isNo_any (n : Int) (w : World) : Calls Try.prog 19 #[.int .i64 n] w fun e w' => e = .returned (.bool (nop n)) ∧ w = w' := by
  obtain ⟨b, hb⟩ : ∃ b, nop n = b := ⟨_, rfl⟩
  rw [hb]
  unfold nop at hb
  cases h1 : (n == 1) <;> cases h2 : (n == 2) <;> cases h4 : (n == 4) <;> cases h8 : (n == 8) <;> cases h16 : (n == 16) <;> cases h32 : (n == 32) <;> simp only [h1, h2, h4, h8, h16, h32, Bool.or_true, Bool.true_or, Bool.or_false, Bool.not_true, Bool.not_false] at hb <;> subst hb <;>
    first
    | (exfalso; simp at h1 h2 h4 h8 h16 h32; omega)
    | (go_enter Try.func19, Try.ntmps19
       go_wp2
       go_ret
       exact ⟨rfl, rfl⟩)
def anyNo (P : List Int) : Bool := P.any nop
theorem any_at {l : List Int} {k : Nat} {y : Int} (h : l[k]? = some y) : (l.drop k).any nop = (nop y || (l.drop (k + 1)).any nop) := by
  have hk := (List.getElem?_eq_some_iff.1 h).1
  rw [List.drop_eq_getElem_cons hk, (List.getElem?_eq_some_iff.1 h).2, List.any_cons]
set_option maxHeartbeats 2000000 in
theorem indexFunc_any (v : Value) (l : List Int) (w : World) (hv : Ris w v l) (hl : l.length ≤ 1000) : Calls Try.prog 24 #[v, .func (.func 19) #[] #[]] w fun e w' => (∃ r : Int, e = .returned (.int .i64 r) ∧ decide (0 ≤ r) = anyNo l) ∧ w = w' := by
  obtain ⟨a, c, rfl, hlc, hcm⟩ := hv.form
  obtain ⟨n, hn⟩ : ∃ n, l.length = n := ⟨_, rfl⟩
  have HN : Hid (l.length = n) := hn
  rw [hn] at hv hlc hl ⊢
  have HR : Hid (Ris w (.slice a n c) l) := hv
  have HP : Hid ((l.drop 0).any nop = anyNo l) := rfl
  obtain ⟨P, hP⟩ : ∃ P, anyNo l = P := ⟨_, rfl⟩
  rw [hP] at HP ⊢
  unfold maxLen at hcm
  clear hv hn hP
  go_enter Try.func24, Try.ntmps24
  go_wp2
  go_loopw [5, 8] (fun _ i wr => ∃ k : Nat, k ≤ n ∧ i = .int .i64 (k : Int) ∧ w = wr ∧ Hid ((l.drop k).any nop = P)) (fun _ i _ => n - (intOf i).toNat)
  case atStart => exact ⟨0, Nat.zero_le _, rfl, rfl, HP.out⟩
  case round =>
    clear HP
    obtain ⟨k, hk, rfl, rfl, HA⟩ := hrel
    by_cases hlt : ¬ k < n
    · have HQ : Hid (P = false) := by
        have := HA.out
        rw [List.drop_eq_nil_of_le (by have := HN.out; omega)] at this
        exact this.symm
      clear HA
      go_wp2
      go_ret
      exact ⟨⟨_, rfl, by rw [HQ.out]; rfl⟩, rfl⟩
    have hlt : k < n := by omega
    obtain ⟨y, hy⟩ : ∃ y, l[k]? = some y := ⟨l[k]'(by have := HN.out; omega), List.getElem?_eq_getElem _⟩
    obtain ⟨g, off, rfl, hcell⟩ := HR.out.at k y hy
    have HA2 : Hid ((nop y || (l.drop (k + 1)).any nop) = P) := by have := HA.out; rw [any_at hy] at this; exact this
    clear HA hy
    go_wp2_with fail
    refine (isNo_any y w).mono ?_
    rintro e u ⟨rfl, rfl⟩
    cases hno : nop y with
    | true =>
      have HQ : Hid (P = true) := by have := HA2.out; rw [hno] at this; exact this.symm
      clear HA2
      go_wp2
      go_ret
      exact ⟨⟨_, rfl, by rw [HQ.out]; exact decide_eq_true (by omega)⟩, rfl⟩
    | false =>
      have HQ : Hid ((l.drop (k + 1)).any nop = P) := by have := HA2.out; rw [hno] at this; exact this
      clear HA2
      go_wp2
      go_roundw
      case rel => exact ⟨k + 1, by omega, by go_num, trivial, HQ.out⟩
      case measure => simp [intOf]; omega
theorem contains_any (v : Value) (l : List Int) (w : World) (hv : Ris w v l) (hl : l.length ≤ 1000) : Calls Try.prog 18 #[v, .func (.func 19) #[] #[]] w fun e w' => e = .returned (.bool (anyNo l)) ∧ w = w' := by
  have HI : Hid (Calls Try.prog 24 #[v, .func (.func 19) #[] #[]] w fun e w' => (∃ r : Int, e = .returned (.int .i64 r) ∧ decide (0 ≤ r) = anyNo l) ∧ w = w') := indexFunc_any v l w hv hl
  obtain ⟨d, hd⟩ : ∃ d, anyNo l = d := ⟨_, rfl⟩
  rw [hd] at HI ⊢
  clear hv hl hd
  go_enter Try.func18, Try.ntmps18
  go_wp2_with fail
  refine (HI.out).mono ?_
  rintro e u ⟨⟨r, rfl, hr⟩, rfl⟩
  go_wp2
  go_ret
  rw [← hr]
  exact ⟨by congr, rfl⟩
/-- what there is to say against tasks -/
def chk (P : List Int) (m : Int) : Int := if m < 1 ∨ 8 < m then 1 else if 64 < P.length then 2 else if anyNo P = true then 1 else 0
theorem chk_ok {P : List Int} {m : Int} (h : chk P m = 0) : 1 ≤ m ∧ m ≤ 8 ∧ P.length ≤ 64 ∧ okP P := by
  unfold chk at h
  split at h
  · omega
  · split at h
    · omega
    · split at h
      · omega
      · rename_i h1 h2 h3
        refine ⟨by omega, by omega, by omega, fun p hp => ?_⟩
        refine nop_iff.1 ?_
        cases q : nop p with
        | false => rfl
        | true => exact absurd (List.any_eq_true.2 ⟨p, hp, q⟩) h3
set_option maxHeartbeats 2000000 in
theorem check_any (v : Value) (P : List Int) (m : Int) (w : World) (hv : Ris w v P) : Calls Try.prog 13 #[v, .int .i64 m] w fun e w' => e = .returned (.int .i64 (chk P m)) ∧ w = w' := by
  have HC : Hid (P.length ≤ 64 → Calls Try.prog 18 #[v, .func (.func 19) #[] #[]] w fun e w' => e = .returned (.bool (anyNo P)) ∧ w = w') := fun h => contains_any v P w hv (by omega)
  obtain ⟨a, c, rfl, hlc, hcm⟩ := hv.form
  obtain ⟨n, hn⟩ : ∃ n, P.length = n := ⟨_, rfl⟩
  unfold chk
  rw [hn] at HC hlc ⊢
  unfold maxLen at hcm
  clear hv hn
  by_cases h1 : m < 1
  · rw [if_pos (.inl h1)]
    clear HC
    go_enter Try.func13, Try.ntmps13
    go_wp2
    go_ret
    exact ⟨rfl, rfl⟩
  by_cases h2 : 8 < m
  · rw [if_pos (.inr h2)]
    clear HC
    go_enter Try.func13, Try.ntmps13
    go_wp2
    go_ret
    exact ⟨rfl, rfl⟩
  rw [if_neg (by omega)]
  by_cases h3 : 64 < n
  · rw [if_pos h3]
    clear HC
    go_enter Try.func13, Try.ntmps13
    go_wp2
    go_ret
    exact ⟨rfl, rfl⟩
  rw [if_neg h3]
  have HC2 : Hid (Calls Try.prog 18 #[.slice a n c, .func (.func 19) #[] #[]] w fun e w' => e = .returned (.bool (anyNo P)) ∧ w = w') := HC.out (by omega)
  clear HC
  cases hA : anyNo P with
  | true =>
    rw [hA] at HC2
    rw [if_pos rfl]
    go_enter Try.func13, Try.ntmps13
    go_wp2_with fail
    refine (HC2.out).mono ?_
    rintro e u ⟨rfl, rfl⟩
    clear HC2
    go_wp2
    go_ret
    exact ⟨rfl, rfl⟩
  | false =>
    rw [hA] at HC2
    rw [if_neg (by simp)]
    go_enter Try.func13, Try.ntmps13
    go_wp2_with fail
    refine (HC2.out).mono ?_
    rintro e u ⟨rfl, rfl⟩
    clear HC2
    go_wp2
    go_ret
    exact ⟨rfl, rfl⟩
set_option maxHeartbeats 2000000 in
theorem cmp_any (g X : Nat) (a : Option Addr) (c : Nat) (P : List Int) (w : World) (hX : w.heap[X]? = some (bv 22 [.slice a P.length c])) (hne : X ≠ g) (hv : Ris w (.slice a P.length c) P) (hg : 0 < P.length → ∀ ad, a = some ad → ad.block ≠ g) (hb : ∀ p ∈ P, 0 ≤ p ∧ p ≤ 1000) : Cmp g X (P.length : Int) (kP P) w := by
  intro u hu x y hx hy
  obtain ⟨x, rfl⟩ := Int.eq_ofNat_of_zero_le hx.1
  obtain ⟨y, rfl⟩ := Int.eq_ofNat_of_zero_le hy.1
  have hx1 : x < P.length := by have := hx.2; omega
  have hy1 : y < P.length := by have := hy.2; omega
  have hcX : u.cell? ⟨X, 0, none⟩ = some (.slice a P.length c) := bv_cell (by rw [hu.other X hne]; exact hX) rfl
  have hkx : kP P (x : Int) = P[x] := by unfold kP; rw [Int.toNat_natCast, getD_at hx1]
  have hky : kP P (y : Int) = P[y] := by unfold kP; rw [Int.toNat_natCast, getD_at hy1]
  obtain ⟨ga, off, rfl, hc1⟩ := hv.at x _ (List.getElem?_eq_getElem hx1)
  obtain ⟨ga', off', e, hc2⟩ := hv.at y _ (List.getElem?_eq_getElem hy1)
  injection e with e
  injection e with e1 e2 _
  subst e1 e2
  have hga : ga ≠ g := hg (by omega) _ rfl
  have hcl : ∀ j, u.cell? ⟨ga, j, none⟩ = w.cell? ⟨ga, j, none⟩ := fun j => by unfold World.cell?; rw [hu.other ga hga]
  rw [← hcl] at hc1 hc2
  have b1 := hb P[x] (List.getElem_mem _)
  have b2 := hb P[y] (List.getElem_mem _)
  rw [hkx, hky]
  obtain ⟨p, hp⟩ : ∃ p, P[x] = p := ⟨_, rfl⟩
  obtain ⟨q, hq⟩ : ∃ q, P[y] = q := ⟨_, rfl⟩
  rw [hp] at b1 hc1 ⊢
  rw [hq] at b2 hc2 ⊢
  obtain ⟨b11, b12⟩ := b1
  obtain ⟨b21, b22⟩ := b2
  obtain ⟨n, hn⟩ : ∃ n, P.length = n := ⟨_, rfl⟩
  rw [hn] at hcX hx1 hy1
  have t1 : IntKind.i64.wrap (p - q) = p - q := by rw [IntKind.wrap_i64]; omega
  clear hX hv hg hb hx hy hkx hky hcl hp hq hn hu
  go_enter Try.func21, Try.ntmps21
  go_wp2_with fail
  go_region
  go_wp2
  go_ret
  exact ⟨rfl, rfl⟩
end Go.Proofs.Ytcenaleladjakab.budget
