/- plugref: masks of commands, in plain words; mask. -/
import Derived.Test.YtecknicmonhcaaaScsR
import Derived.Test.YtecknicmonhcaaaScsP
namespace Go.Proofs.Ytecknicmonhcaaa.scsi
open Go.RowKit Go.PlainAid Go.Proofs.Ytecknicmonhcaaa.lane Go.Proofs.Ytecknicmonhcaaa.pipe Go.Proofs.Ytecknicmonhcaaa.strike
set_option linter.unusedVariables false
set_option linter.unusedSimpArgs false
set_option maxRecDepth 100000

def msk (op : Int) : List Int :=
  if op = 0 then [48, 48, 48, 48, 48, 48] else if op = 3 ∨ op = 18 then [48, 48, 48, 48, 110, 48] else if op = 26 then [48, 48, 110, 48, 110, 48]
  else if op = 37 then [48, 48, 48, 48, 48, 48, 48, 48, 48, 48] else if op = 40 ∨ op = 42 ∨ op = 53 then [48, 48, 110, 110, 110, 110, 48, 110, 110, 48] else []
def mok (m b : Int) : Bool := !(m == 48 && decide (b > 0))
def mok2 : List Int → List Int → Bool
  | m :: M, b :: R => mok m b && mok2 M R
  | _, _ => true
/-- plugref's form of a command -/
def rfC (L : List Int) : Int :=
  if L = [] ∨ msk (L.getD 0 0) = [] then 32 else if (msk (L.getD 0 0)).length ≠ L.length then 36 else if mok2 ((msk (L.getD 0 0)).drop 1) (L.drop 1) = false then 36
  else if L.getD 0 0 = 26 ∧ L.getD 2 0 ≠ 63 then 36 else 0
theorem five {R : List Int} (h : R.length = 5) : ∃ a b c d e, R = [a, b, c, d, e] := by
  match R, h with
  | [a, b, c, d, e], _ => exact ⟨a, b, c, d, e, rfl⟩
theorem nine {R : List Int} (h : R.length = 9) : ∃ a b c d e f g i j, R = [a, b, c, d, e, f, g, i, j] := by
  match R, h with
  | [a, b, c, d, e, f, g, i, j], _ => exact ⟨a, b, c, d, e, f, g, i, j, rfl⟩
theorem msk_len (op : Int) : (msk op).length = 0 ∨ (msk op).length = 6 ∨ (msk op).length = 10 := by
  unfold msk
  repeat' split
  all_goals simp
theorem msk_byt (op : Int) : Byt (msk op) ∧ ∀ x ∈ msk op, x < 128 := by
  unfold msk
  refine ⟨fun x hx => ?_, fun x hx => ?_⟩
  · repeat' split at hx
    all_goals (simp at hx; try omega)
  · repeat' split at hx
    all_goals (simp at hx; try omega)
theorem fm_ref (L : List Int) (hb : Byt L) : fmC L = rfC L := by
  cases L with
  | nil => rfl
  | cons op R =>
    have hR : ∀ x ∈ R, 0 ≤ x := fun x hx => (hb x (List.mem_cons_of_mem _ hx)).1
    show (if frm op = [] then 32 else if R.length ≠ (frm op).length then 36 else if ok2 (frm op) R = true then 0 else 36) = _
    unfold rfC
    have e0 : (op :: R).getD 0 0 = op := rfl
    rw [e0]
    by_cases c0 : op = 0
    · subst c0
      rw [show frm 0 = [48, 48, 48, 48, 48] from rfl, show msk 0 = [48, 48, 48, 48, 48, 48] from rfl]
      by_cases hl : R.length = 5
      · obtain ⟨a, b, c, d, e, rfl⟩ := five hl
        have := hR a; have := hR b; have := hR c; have := hR d; have := hR e
        simp [ok2, okb, mok2, mok] at *
        repeat' split
        all_goals first | rfl | omega
      · simp [hl]
    by_cases c1 : op = 3 ∨ op = 18
    · have f1 : frm op = [48, 48, 48, 78, 48] := by rcases c1 with rfl | rfl <;> rfl
      have f2 : msk op = [48, 48, 48, 48, 110, 48] := by rcases c1 with rfl | rfl <;> rfl
      have f3 : ¬ op = 26 := by omega
      rw [f1, f2]
      by_cases hl : R.length = 5
      · obtain ⟨a, b, c, d, e, rfl⟩ := five hl
        have := hR a; have := hR b; have := hR c; have := hR d; have := hR e
        simp [ok2, okb, mok2, mok, f3] at *
        repeat' split
        all_goals first | rfl | omega
      · simp [hl]
    by_cases c2 : op = 26
    · subst c2
      rw [show frm 26 = [48, 80, 48, 78, 48] from rfl, show msk 26 = [48, 48, 110, 48, 110, 48] from rfl]
      by_cases hl : R.length = 5
      · obtain ⟨a, b, c, d, e, rfl⟩ := five hl
        have := hR a; have := hR b; have := hR c; have := hR d; have := hR e
        simp [ok2, okb, mok2, mok] at *
        repeat' split
        all_goals first | rfl | omega
      · simp [hl]
    by_cases c3 : op = 37
    · subst c3
      rw [show frm 37 = [48, 48, 48, 48, 48, 48, 48, 48, 48] from rfl, show msk 37 = [48, 48, 48, 48, 48, 48, 48, 48, 48, 48] from rfl]
      by_cases hl : R.length = 9
      · obtain ⟨a, b, c, d, e, f, g, i, j, rfl⟩ := nine hl
        have := hR a; have := hR b; have := hR c; have := hR d; have := hR e; have := hR f; have := hR g; have := hR i; have := hR j
        simp [ok2, okb, mok2, mok] at *
        repeat' split
        all_goals first | rfl | omega
      · simp [hl]
    by_cases c4 : op = 40 ∨ op = 42 ∨ op = 53
    · have f1 : frm op = [48, 78, 78, 78, 78, 48, 78, 78, 48] := by rcases c4 with rfl | rfl | rfl <;> rfl
      have f2 : msk op = [48, 48, 110, 110, 110, 110, 48, 110, 110, 48] := by rcases c4 with rfl | rfl | rfl <;> rfl
      rw [f1, f2]
      by_cases hl : R.length = 9
      · obtain ⟨a, b, c, d, e, f, g, i, j, rfl⟩ := nine hl
        have := hR a; have := hR b; have := hR c; have := hR d; have := hR e; have := hR f; have := hR g; have := hR i; have := hR j
        simp [ok2, okb, mok2, mok, c2] at *
        repeat' split
        all_goals first | rfl | omega
      · simp [hl]
    have f1 : frm op = [] := by unfold frm; rw [if_neg c0, if_neg c1, if_neg c2, if_neg c3, if_neg c4]
    have f2 : msk op = [] := by unfold msk; rw [if_neg c0, if_neg c1, if_neg c2, if_neg c3, if_neg c4]
    rw [f1, f2]
    simp
set_option maxHeartbeats 2000000 in
theorem mask_any (b : Int) (w : World) : Calls Try.prog 82 #[.int .u8 b] w fun e w' => e = .returned (.string (strOfNums (msk b))) ∧ w = w' := by
  by_cases h0 : b = 0
  · subst h0; go_enter Try.func82, Try.ntmps82; go_wp2; go_ret; exact ⟨rfl, rfl⟩
  by_cases h1 : b = 3
  · subst h1; go_enter Try.func82, Try.ntmps82; go_wp2; go_ret; exact ⟨rfl, rfl⟩
  by_cases h2 : b = 18
  · subst h2; go_enter Try.func82, Try.ntmps82; go_wp2; go_ret; exact ⟨rfl, rfl⟩
  by_cases h3 : b = 26
  · subst h3; go_enter Try.func82, Try.ntmps82; go_wp2; go_ret; exact ⟨rfl, rfl⟩
  by_cases h4 : b = 37
  · subst h4; go_enter Try.func82, Try.ntmps82; go_wp2; go_ret; exact ⟨rfl, rfl⟩
  by_cases h5 : b = 40
  · subst h5; go_enter Try.func82, Try.ntmps82; go_wp2; go_ret; exact ⟨rfl, rfl⟩
  by_cases h6 : b = 42
  · subst h6; go_enter Try.func82, Try.ntmps82; go_wp2; go_ret; exact ⟨rfl, rfl⟩
  by_cases h7 : b = 53
  · subst h7; go_enter Try.func82, Try.ntmps82; go_wp2; go_ret; exact ⟨rfl, rfl⟩
  have e : msk b = [] := by unfold msk; rw [if_neg h0, if_neg (by omega), if_neg h3, if_neg h4, if_neg (by omega)]
  rw [e]
  have e0 : (b == 0) = false := by simp [h0]
  have e1 : (b == 3) = false := by simp [h1]
  have e2 : (b == 18) = false := by simp [h2]
  have e3 : (b == 26) = false := by simp [h3]
  have e4 : (b == 37) = false := by simp [h4]
  have e5 : (b == 40) = false := by simp [h5]
  have e6 : (b == 42) = false := by simp [h6]
  have e7 : (b == 53) = false := by simp [h7]
  clear h0 h1 h2 h3 h4 h5 h6 h7 e
  go_enter Try.func82, Try.ntmps82
  go_wp2
  go_ret
  exact ⟨rfl, rfl⟩
end Go.Proofs.Ytecknicmonhcaaa.scsi
