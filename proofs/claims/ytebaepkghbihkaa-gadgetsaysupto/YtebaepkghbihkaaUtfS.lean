/- plugref's utf: rows of integers; what Narrow answers. -/
import Derived.Test.YtebaepkghbihkaaUtfR
import Derived.Test.YtebaepkghbihkaaUtfD
import Derived.Deep.RegionHeld3
import Derived.Deep.AppendLies
namespace Go.Proofs.Ytebaepkghbihkaa.utf
set_option maxRecDepth 100000
open Go.RowKit Go.PlainAid Go.Lib Go.Proofs.Ytebaepkghbihkaa.lane

theorem infoI : (Try.prog.info? 3).map (fun i => (i.zero, i.size, i.bytes)) = some (some (.int .i64 0), 1, 8) := by kernel_rfl
/-- the value v owns the integers us, in a block from B on -/
def Ins (w : World) (B : Nat) (v : Value) (us : List Int) : Prop := w.ownsRow B 3 1 v us.length (us.map (Value.int .i64))
theorem Ins.nil (w : World) (B : Nat) : Ins w B (.slice none 0 0) [] := ⟨rfl, .inl ⟨rfl, rfl⟩⟩
theorem Ins.block {w : World} {B : Nat} {v : Value} {us : List Int} (h : Ins w B v us) : ∀ k, v.ownBlock = some k → B ≤ k := by
  intro k hk
  rcases h.2 with ⟨rfl, h0⟩ | ⟨g, cap, cur, rfl, hb, _⟩
  · cases hk
  · simp [Value.ownBlock] at hk; omega
theorem Ins.push {w1 : World} {B g cap : Nat} {us : List Int} {x : Int}
    (h : w1.ownsRow B 3 1 (.slice (some ⟨g, 0, none⟩) (us.length + 1) cap) (us.length + 1) (us.map (Value.int .i64) ++ [.int .i64 x])) :
    Ins w1 B (.slice (some ⟨g, 0, none⟩) (us.length + 1) cap) (us ++ [x]) := by
  unfold Ins
  simpa using h
/-- a slice that reads as the integers us -/
def Rd (w : World) (v : Value) (us : List Int) : Prop := ∃ a c, v = .slice a us.length c ∧ us.length ≤ c ∧ (us ≠ [] → ∃ g off, a = some ⟨g, off, none⟩ ∧ g < w.heap.size ∧ ∀ j x, us[j]? = some x → w.cell? ⟨g, off + j, none⟩ = some (.int .i64 x))
theorem Ins.rd {w : World} {B : Nat} {v : Value} {us : List Int} (h : Ins w B v us) : Rd w v us := by
  have h' := h
  rcases h.2 with ⟨rfl, h0⟩ | ⟨g, cap, cur, rfl, hB, hg, hnc, hcm, hs, ht⟩
  · exact ⟨none, 0, by rw [h0], by omega, fun hne => absurd (List.eq_nil_of_length_eq_zero h0) hne⟩
  · refine ⟨_, cap, rfl, hnc, fun _ => ⟨g, 0, rfl, ?_, ?_⟩⟩
    · rcases Nat.lt_or_ge g w.heap.size with hl | hl
      · exact hl
      · rw [Array.getElem?_eq_none hl] at hg; cases hg
    · intro j x hx
      have hj := (List.getElem?_eq_some_iff.1 hx).1
      rw [Nat.zero_add, World.ownsRow.cellAt h' j (by omega)]
      simp [hx]
theorem Rd.keep {w w' : World} {v : Value} {us : List Int} (h : Rd w v us) (hb : Below w.heap.size w w') : Rd w' v us := by
  obtain ⟨a, c, hv, h1, h3⟩ := h
  refine ⟨a, c, hv, h1, fun hne => ?_⟩
  obtain ⟨g, off, ha, hg, hc⟩ := h3 hne
  exact ⟨g, off, ha, by have := hb.size; omega, fun j x hx => (hb.cell (p := ⟨g, off + j, none⟩) hg).trans (hc j x hx)⟩
theorem Rd.tail {w : World} {g off c : Nat} {u : Int} {us : List Int} (h1 : us.length + 1 ≤ c) (hg : g < w.heap.size)
    (hc : ∀ j x, (u :: us)[j]? = some x → w.cell? ⟨g, off + j, none⟩ = some (.int .i64 x)) : Rd w (.slice (some ⟨g, off + 1, none⟩) us.length (c - 1)) us := by
  refine ⟨_, c - 1, rfl, by omega, fun _ => ⟨g, off + 1, rfl, hg, fun j x hx => ?_⟩⟩
  have := hc (j + 1) x (by simpa using hx)
  rw [show off + 1 + j = off + (j + 1) by omega]; exact this
theorem Rd.nil (w : World) (a : Option Addr) (c : Nat) : Rd w (.slice a 0 c) [] := ⟨a, c, rfl, Nat.zero_le _, fun h => absurd rfl h⟩
theorem Rd.zero {us : List Int} (w : World) (a : Option Addr) (c : Nat) (h : us.length = 0) : Rd w (.slice a us.length c) us := ⟨a, c, rfl, by omega, fun hn => absurd (List.eq_nil_of_length_eq_zero h) hn⟩
def lnOf : Value → Nat
  | .slice _ n _ => n
  | _ => 0

theorem q54 (u : Int) (h0 : 0 ≤ u) : (u / 1024 == 54) = decide (55296 ≤ u ∧ u ≤ 56319) := by
  rw [Bool.eq_iff_iff, beq_iff_eq, decide_eq_true_eq]; omega
theorem q55 (u : Int) (h0 : 0 ≤ u) : (u / 1024 == 55) = decide (56320 ≤ u ∧ u ≤ 57343) := by
  rw [Bool.eq_iff_iff, beq_iff_eq, decide_eq_true_eq]; omega
theorem q27 (u : Int) (h0 : 0 ≤ u) : (u / 2048 == 27) = decide (55296 ≤ u ∧ u ≤ 57343) := by
  rw [Bool.eq_iff_iff, beq_iff_eq, decide_eq_true_eq]; omega

theorem nstep {acc X : ByteArray} {V vs : List Int} {c : Int} (h : acc ++ strOfNums (encs (pairL V)) = X) (hp : pairL V = c :: pairL vs) : (acc ++ strOfNums (encodeRuneZ c)) ++ strOfNums (encs (pairL vs)) = X := by
  rw [hp, encs_cons, str_append, ← ByteArray.append_assoc] at h; exact h
theorem lone_ok {u : Int} (h0 : 0 ≤ u) (h1 : u ≤ 65535) : okR (loneU u) := by unfold loneU okR; split <;> omega
theorem pair_ok {u v : Int} (h : isPair u v) : okR (pairR u v) := by unfold isPair at h; unfold pairR okR; omega
theorem pairR_mod {u v : Int} (h : isPair u v) : 65536 + u % 1024 * 1024 + v % 1024 = pairR u v := by unfold isPair at h; unfold pairR; omega
theorem str_four (c : Int) : (strOfNums (encodeRuneZ c)).size ≤ 4 := by rw [str_size]; exact (encodeRuneZ_length c).2

end Go.Proofs.Ytebaepkghbihkaa.utf
