/- hub: the bits that Changes tells; Changes that are cleared. -/
import Derived.Test.YtdnmjeiljpdmcaaHubV
namespace Go.Proofs.Ytdnmjeiljpdmcaa.hub
open Go Go.RowKit
open Go.Proofs.Ytdnmjeiljpdmcaa.slots (cl cl_at cl_set cl_ext)
open Go.PlainAid
open Go.Proofs.Ytdnmjeiljpdmcaa.lane (nums str_size bt_nums nums_str)
open Go.Proofs.Ytdnmjeiljpdmcaa.setup (wrT good)
set_option linter.unusedVariables false
set_option linter.unusedSimpArgs false
set_option maxRecDepth 100000

theorem num_bit (F : List Int) {k : Nat} (hk : k < 16) : num F 16 / 2 ^ k % 2 = bit F k := by
  have h := num_rem F (16 - k) k
  rw [show k + (16 - k) = 16 by omega] at h
  rw [show 16 - k = (15 - k) + 1 by omega, rem_succ] at h
  have hr := num_range F k
  have hb := bit_range F k
  have hp : (0 : Int) < 2 ^ k := Int.pow_pos (by omega)
  have e : num F 16 / 2 ^ k = bit F k + 2 * rem F (15 - k) (k + 1) := by
    rw [← h, Int.add_mul_ediv_left _ _ (by omega), Int.ediv_eq_zero_of_lt hr.1 hr.2, Int.zero_add]
  rw [e]
  omega
/-- the bit of a port: where it lies, and what it is -/
theorem told_bit {F : List Int} (h : Ok F) {m1 k : Nat} (hm : cn F / 8 = (m1 : Int)) (hk : k < 16) (hp : isP F (k : Int) = true) :
    ∃ (j r : Nat) (x : Int), (k : Int) / 8 = (j : Int) ∧ (k : Int) % 8 = (r : Int) ∧ r < 8 ∧ j < m1 + 1 ∧ (cgT F)[j]? = some x ∧ 0 ≤ x ∧ x < 256 ∧ x / 2 ^ r % 2 = bit F k := by
  have h1 := h.lo
  have h2 := h.hi
  have hp2 := (isP_iff.1 hp).2
  have hN0 : 0 ≤ num F 16 ∧ num F 16 < 65536 := by
    have := num_range F 16
    have e : (2 : Int) ^ 16 = 65536 := by decide
    omega
  have hbit := num_bit F hk
  rw [← byT_end h hm]
  unfold byT
  generalize num F 16 = N at *
  by_cases q : k < 8
  · refine ⟨0, k, N % 256, by omega, by omega, q, by omega, ?_, by omega, by omega, ?_⟩
    · rw [List.getElem?_take, if_pos (by omega)]; rfl
    · rw [← hbit]
      rcases (by omega : k = 0 ∨ k = 1 ∨ k = 2 ∨ k = 3 ∨ k = 4 ∨ k = 5 ∨ k = 6 ∨ k = 7) with rfl | rfl | rfl | rfl | rfl | rfl | rfl | rfl <;> (simp only [Nat.reduceSub, Int.reducePow]; omega)
  · have hm1 : m1 = 1 := by omega
    subst hm1
    refine ⟨1, k - 8, N / 256, by omega, by omega, by omega, by omega, rfl, by omega, by omega, ?_⟩
    rw [← hbit]
    rcases (by omega : k = 8 ∨ k = 9 ∨ k = 10 ∨ k = 11 ∨ k = 12 ∨ k = 13 ∨ k = 14 ∨ k = 15) with rfl | rfl | rfl | rfl | rfl | rfl | rfl | rfl <;> (simp only [Nat.reduceSub, Int.reducePow]; omega)
theorem cgT_len {F : List Int} (h : Ok F) {m1 : Nat} (hm : cn F / 8 = (m1 : Int)) : (cgT F).length = m1 + 1 := by
  have h1 := h.lo
  have h2 := h.hi
  rw [← byT_end h hm]
  unfold byT
  rw [List.length_take]
  show min (m1 + 1) 2 = _
  omega
theorem cgT_byt {F : List Int} (h : Ok F) : lane.Byt (cgT F) := by
  have hN0 : 0 ≤ num F 16 ∧ num F 16 < 65536 := by
    have := num_range F 16
    have e : (2 : Int) ^ 16 = 65536 := by decide
    omega
  obtain ⟨m1, hm⟩ : ∃ m1 : Nat, cn F / 8 = (m1 : Int) := ⟨(cn F / 8).toNat, by have := h.lo; omega⟩
  rw [← byT_end h hm]
  intro x hx
  have := List.mem_of_mem_take hx
  simp at this
  omega
/-- where no port tells anything -/
theorem num_none {F : List Int} : ∀ k, (∀ j, j < k → chg F j = 0) → num F k = 0
  | 0, _ => rfl
  | k + 1, h => by
    rw [num_succ, num_none k (fun j hj => h j (by omega))]
    unfold bit
    rw [if_pos (h k (by omega))]
    omega
theorem cgT_none {F : List Int} (h : Ok F) {m1 : Nat} (hm : cn F / 8 = (m1 : Int)) (hz : ∀ j : Nat, (j : Int) ≤ cn F → chg F j = 0) : cgT F = List.replicate (m1 + 1) 0 := by
  have h1 := h.lo
  have h2 := h.hi
  have hn : num F 16 = 0 := num_none 16 (fun j hj => by
    by_cases q : (j : Int) ≤ cn F
    · exact hz j q
    · have : isP F (j : Int) = false := by unfold isP; simp; omega
      exact (h.none hj this).2)
  rw [← byT_end h hm]
  unfold byT
  rw [hn]
  rcases (by omega : m1 = 0 ∨ m1 = 1) with rfl | rfl <;> rfl
/-- a Change of which the first i of the three bits are cleared -/
def cleared (i : Nat) (x : Int) : Bool :=
  if i = 0 then chB x else if i = 1 then (x == 0 || x == 2 || x == 16 || x == 18) else if i = 2 then (x == 0 || x == 16) else x == 0
def clrV (i : Nat) : Int := if i = 0 then 16 else if i = 1 then 17 else 20
theorem cleared_step {i : Nat} {x : Int} (hi : i < 3) (h : cleared i x = true) : cleared (i + 1) (dnC false (clrV i) x) = true := by
  rcases (by omega : i = 0 ∨ i = 1 ∨ i = 2) with rfl | rfl | rfl
  · rcases chB_iff.1 h with rfl | rfl | rfl | rfl | rfl | rfl | rfl | rfl <;> decide
  · have : x = 0 ∨ x = 2 ∨ x = 16 ∨ x = 18 := by simp [cleared] at h; omega
    rcases this with rfl | rfl | rfl | rfl <;> decide
  · have : x = 0 ∨ x = 16 := by simp [cleared] at h; omega
    rcases this with rfl | rfl <;> decide
/-- a hub on the way: the ports below k have been cleared -/
structure Way (c : Int) (k : Nat) (G : List Int) : Prop where
  ok : Ok G
  cn : hub.cn G = c
  none : ∀ j : Nat, j < k → chg G j = 0
structure Way2 (c : Int) (k i : Nat) (G : List Int) : Prop where
  way : Way c k G
  here : cleared i (chg G k) = true
theorem Way.first {c : Int} {F : List Int} (h : Ok F) (hc : hub.cn F = c) : Way c 1 F := by
  refine ⟨h, hc, fun j hj => ?_⟩
  have : j = 0 := by omega
  subst this
  exact (h.none (by omega) (by unfold isP; simp)).2
theorem Way.start {c : Int} {k : Nat} {G : List Int} (h : Way c k G) (hk : k < 16) : Way2 c k 0 G := ⟨h, (rgt_iff.1 (h.ok.rgt hk)).2⟩
theorem Way2.done {c : Int} {k : Nat} {G : List Int} (h : Way2 c k 3 G) : Way c (k + 1) G := by
  refine ⟨h.way.ok, h.way.cn, fun j hj => ?_⟩
  by_cases e : j = k
  · subst e
    have := h.here
    simpa [cleared] using this
  · exact h.way.none j (by omega)
theorem Way2.step {c : Int} {k i : Nat} {G : List Int} (h : Way2 c k i G) (h1 : 1 ≤ (k : Int)) (h2 : (k : Int) ≤ c) (hi : i < 3) : Way2 c k (i + 1) (setP G k (dnS false (clrV i) (sta G k)) (dnC false (clrV i) (chg G k))) := by
  have h3 := h.way.ok.hi
  have hk : k < 16 := by have := h.way.cn; omega
  have hp : isP G (k : Int) = true := by rw [isP_iff, h.way.cn]; exact ⟨h1, h2⟩
  obtain ⟨hs, hc⟩ := rgt_iff.1 (h.way.ok.rgt hk)
  refine ⟨⟨h.way.ok.set hp (rgt_iff.2 ⟨stS hs _ _, chS hc _ _⟩), by rw [setP_cn]; exact h.way.cn, fun j hj => ?_⟩, ?_⟩
  · rw [setP_chg h.way.ok.len hk, if_neg (by omega)]; exact h.way.none j hj
  · rw [setP_chg h.way.ok.len hk, if_pos rfl]; exact cleared_step hi h.here
theorem dnE_clr {i : Nat} (hi : i < 3) (s : Int) : dnE false (clrV i) s = 0 := by
  rcases (by omega : i = 0 ∨ i = 1 ∨ i = 2) with rfl | rfl | rfl <;> rfl
theorem clr_ask {c : Int} {k i : Nat} {G : List Int} (h : Way2 c k i G) (h1 : 1 ≤ (k : Int)) (h2 : (k : Int) ≤ c) (hi : i < 3) (u : World) :
    Calls Try.prog 15 #[ag G, .string (wrT 10 (clrV i) k 0)] u fun e w' => e = .returned (.tuple #[ag (setP G k (dnS false (clrV i) (sta G k)) (dnC false (clrV i) (chg G k))), .string ⟨#[]⟩, .int .i64 0]) ∧ Below u.heap.size u w' := by
  have h3 := h.way.ok.hi
  have hcn := h.way.cn
  have hp : isP G (k : Int) = true := by rw [isP_iff, h.way.cn]; exact ⟨h1, h2⟩
  have hv : 0 ≤ clrV i ∧ clrV i ≤ 31 := by rcases (by omega : i = 0 ∨ i = 1 ∨ i = 2) with rfl | rfl | rfl <;> decide
  have hg : good 10 (clrV i) k 0 = true := good_port (.inr ⟨.inr rfl, hv, rfl⟩) h1 (by omega)
  obtain ⟨hq, hz⟩ := asked_qs hg
  have := control_any G (wrT 10 (clrV i) k 0) u h.way.ok.hb (by rw [hz]; unfold maxLen; omega)
  obtain ⟨e1, e2, e3⟩ := ctl_9 h.way.ok (k := 10) (v := clrV i) (.inr rfl) hp
  unfold ctS at this
  rw [hq, e1, e2, e3, show ((10 : Int) == 9) = false from rfl, dnE_clr hi] at this
  exact this
end Go.Proofs.Ytdnmjeiljpdmcaa.hub
