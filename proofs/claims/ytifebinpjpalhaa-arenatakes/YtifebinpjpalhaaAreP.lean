/- plugref: what Two answers; a row of numbers of the call's own; free units in a row, from the last one on; the first place that fits. -/
import Derived.Test.YtifebinpjpalhaaAreU
namespace Go.Proofs.Ytifebinpjpalhaa.arena
open Go.RowKit
set_option linter.unusedVariables false
set_option linter.unusedSimpArgs false
set_option maxRecDepth 100000

theorem pow_bd : ∀ j : Fin 33, (1 : Int) ≤ 2 ^ j.val ∧ (2 : Int) ^ j.val ≤ 4294967296 := by decide
theorem ret_i64 {a b : Int} (h : a = b) : Ending.returned (.int .i64 a) = .returned (.int .i64 b) := by rw [h]
theorem two_any (k : Nat) (hk : k ≤ 32) (w : World) :
    Calls Try.prog 28 #[.int .i64 (k : Int)] w fun e w' => e = .returned (.int .i64 (2 ^ k)) ∧ w = w' := by
  go_enter Try.func28, Try.ntmps28
  go_wp2
  go_loop [3, 5] (fun n i => ∃ (j : Nat) (p : Int), j ≤ k ∧ 1 ≤ p ∧ p ≤ 4294967296 ∧ i = .int .i64 j ∧ n = .int .i64 p ∧ Hid (p = 2 ^ j)) (fun _ i => k - (intOf i).toNat)
  case atStart => exact ⟨0, 1, Nat.zero_le _, by omega, by omega, rfl, rfl, rfl⟩
  case round =>
    obtain ⟨j, p, hj, h1, h2, rfl, rfl, HP⟩ := hrel
    by_cases hlt : j < k
    · have hb := pow_bd ⟨j + 1, by omega⟩
      simp only [Int.pow_succ, ← HP.out] at hb
      go_wp2
      go_round
      case rel => exact ⟨j + 1, p * 2, by omega, hb.1, hb.2, by go_num, rfl, by show _ = _; rw [Int.pow_succ, HP.out]⟩
      case measure => simp [intOf]; omega
    · obtain rfl : j = k := by omega
      go_wp2
      go_ret
      exact ⟨ret_i64 HP.out, rfl⟩
theorem als_at : ∀ j : Fin 13, als[j.val]? = some ((2 : Int) ^ j.val) := by decide
theorem als_step {j : Nat} (h : j < 13) (g : Int) : (als.take (j + 1)).contains g = ((als.take j).contains g || g == 2 ^ j) := by
  rw [List.take_add_one, als_at ⟨j, h⟩, List.contains_eq_any_beq, List.contains_eq_any_beq, List.any_append]
  simp
theorem infoI : (Try.prog.info? 3).map (fun i => (i.zero, i.size, i.bytes)) = some (some (.int .i64 0), 1, 8) := by kernel_rfl
def icells (l : List Nat) : List Value := l.map fun x : Nat => .int .i64 (x : Int)
/-- a row of n numbers of the call's own, in block B -/
def Iw (w : World) (B n : Nat) (l : List Nat) : Prop := w.ownsRow B 3 1 (.slice (some ⟨B, 0, none⟩) n n) n (icells l)
theorem Iw.len {w : World} {B n : Nat} {l : List Nat} (h : Iw w B n l) : l.length = n := by have := h.1; simpa [icells] using this
theorem Iw.free {w : World} {B n : Nat} {l : List Nat} (h : Iw w B n l) (k : Nat) : w.frozen? ⟨B, k, none⟩ = false := World.ownsRow.frozenAt h k
theorem Iw.cell {w : World} {B n : Nat} {l : List Nat} (h : Iw w B n l) {k : Nat} {x : Nat} (hk : l[k]? = some x) : w.cell? ⟨B, k, none⟩ = some (.int .i64 (x : Int)) := by
  have hl := h.len
  have hlt := (List.getElem?_eq_some_iff.1 hk).1
  rw [World.ownsRow.cellAt h k (by omega)]
  simp [icells, hk]
theorem Iw.set {w : World} {B n : Nat} {l : List Nat} (h : Iw w B n l) (k v : Nat) : Iw (w.setCell ⟨B, k, none⟩ (.int .i64 (v : Int))) B n (l.set k v) := by
  have := (World.ownsRow.stored h k (.int .i64 (v : Int))).1
  unfold Iw
  rw [show icells (l.set k v) = (icells l).set k (.int .i64 (v : Int)) by simp [icells, List.map_set]]
  exact this
theorem Iw.made {w : World} {B n : Nat} (h : w.ownsRow B 3 1 (.slice (some ⟨B, 0, none⟩) n n) n (madeCells (Value.int .i64 0).cells (n * 1)).toList) : Iw w B n (List.replicate n 0) := by
  have e : (madeCells (Value.int .i64 0).cells (n * 1)).toList = icells (List.replicate n 0) := by
    rw [Nat.mul_one]
    have := toList_madeCells_one (Value.int .i64 0) n
    unfold icells
    rw [List.map_replicate]
    exact this
  rw [e] at h
  exact h
/-- how many free ones from each unit on, as far as it is reckoned -/
def rowF (t : List Bool) (n m : Nat) : List Nat := (List.range (n + 1)).map fun i => if i < m then 0 else rn (t.drop i)
theorem rowF_at {t : List Bool} {n m i : Nat} (h : i ≤ n) : (rowF t n m)[i]? = some (if i < m then 0 else rn (t.drop i)) := by
  unfold rowF
  rw [List.getElem?_map, List.getElem?_range (by omega)]
  rfl
theorem rowF_start {t : List Bool} {n : Nat} (h : t.length = n) : List.replicate (n + 1) 0 = rowF t n n := by
  apply List.ext_getElem
  · simp [rowF]
  · intro i h1 h2
    have hi : i < n + 1 := by simpa using h1
    simp only [rowF, List.getElem_map, List.getElem_range, List.getElem_replicate]
    by_cases q : i < n
    · rw [if_pos q]
    · rw [if_neg q, List.drop_eq_nil_of_le (by omega)]; rfl
theorem rn_false {t : List Bool} {m : Nat} (h : t[m]? = some false) : rn (t.drop m) = rn (t.drop (m + 1)) + 1 := by
  rw [List.drop_eq_getElem_cons (List.getElem?_eq_some_iff.1 h).1, (List.getElem?_eq_some_iff.1 h).2]; rfl
theorem rn_true {t : List Bool} {m : Nat} (h : t[m]? = some true) : rn (t.drop m) = 0 := by
  rw [List.drop_eq_getElem_cons (List.getElem?_eq_some_iff.1 h).1, (List.getElem?_eq_some_iff.1 h).2]; rfl
theorem rowF_true {t : List Bool} {n m : Nat} (h : t[m]? = some true) : rowF t n (m + 1) = rowF t n m := by
  unfold rowF
  apply List.map_congr_left
  intro i _
  by_cases q : i < m
  · rw [if_pos (by omega), if_pos q]
  · by_cases q2 : i = m
    · subst q2; rw [if_pos (by omega), if_neg (by omega), rn_true h]
    · rw [if_neg (by omega), if_neg q]
theorem rowF_false {t : List Bool} {n m : Nat} (hm : m < n) (h : t[m]? = some false) : (rowF t n (m + 1)).set m (rn (t.drop (m + 1)) + 1) = rowF t n m := by
  apply List.ext_getElem
  · simp [rowF]
  · intro i h1 h2
    rw [List.getElem_set]
    simp only [rowF, List.getElem_map, List.getElem_range]
    by_cases q : m = i
    · subst q; rw [if_pos rfl, if_neg (by omega), rn_false h]
    · rw [if_neg q]
      by_cases q2 : i < m
      · rw [if_pos (by omega), if_pos q2]
      · rw [if_neg (by omega), if_neg q2]
/-- the first place that fits -/
theorem tk_first {a : Ar} {s g p : Int} (h1 : chk a = 0) (h2 : argB s g = true) (h3 : ¬ a.L.length = 64) (hp : 0 ≤ p) (hF : Fit a.z s g a.L p) (hmin : ∀ q, 0 ≤ q → q < p → ¬ Fit a.z s g a.L q) : tkC a s g = 0 ∧ tkP a s g = p := by
  have hok : (tkF a s g).ok = true := by
    cases q : (tkF a s g).ok with
    | true => rfl
    | false => exact absurd hF (tk_full h1 h2 q p hp)
  have hc : tkC a s g = 0 := by unfold tkC; rw [if_neg (fun q => q h1), if_neg (by simp [h2]), if_neg h3, if_neg (by simp [hok])]
  obtain ⟨_, _, _, _, _, _, k1, k2, k3⟩ := tk_facts hc
  refine ⟨hc, ?_⟩
  have := k3 p hp hF
  rcases Int.lt_or_le (tkP a s g) p with q | q
  · exact absurd k2 (hmin _ k1 q)
  · omega
theorem tk_no {a : Ar} {s g : Int} {n : Nat} (hz : a.z ≤ (n : Int)) (h1 : chk a = 0) (h2 : argB s g = true) (h3 : ¬ a.L.length = 64) (hmin : ∀ q : Int, 0 ≤ q → q < (n : Int) → ¬ Fit a.z s g a.L q) : tkC a s g = 11 := by
  cases q : (tkF a s g).ok with
  | false => unfold tkC; rw [if_neg (fun q => q h1), if_neg (by simp [h2]), if_neg h3, if_pos q]
  | true =>
    exfalso
    have hc : tkC a s g = 0 := by unfold tkC; rw [if_neg (fun q => q h1), if_neg (by simp [h2]), if_neg h3, if_neg (by simp [q])]
    obtain ⟨_, _, _, _, _, _, k1, k2, k3⟩ := tk_facts hc
    have := k2.2.1
    have := (arg_ok h2).1
    exact hmin _ k1 (by omega) k2
end Go.Proofs.Ytifebinpjpalhaa.arena
