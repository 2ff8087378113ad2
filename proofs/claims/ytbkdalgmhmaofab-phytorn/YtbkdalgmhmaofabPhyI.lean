/- phy: what was heard held against what was heard: slices.Equal; ears held against ears. -/
import Derived.Test.YtbkdalgmhmaofabPhyH
import Derived.Laws.StructEq
import Derived.RegionTactic
namespace Go.Proofs.Ytbkdalgmhmaofab.lane
open Go.RowKit Go.PlainAid
set_option linter.unusedVariables false

theorem und_ear : Try.prog.underlying 28 = some (.struct (Try.prog.fieldsOf 28)) := by kernel_rfl
theorem stood_ear : Try.prog.stoodInHeld 28 = false := by kernel_rfl
theorem guardT_ear : Try.prog.eqGuardType Try.prog.depth 28 = false := by kernel_rfl
theorem und_hrd : Try.prog.underlying 35 = some (.struct (Try.prog.fieldsOf 35)) := by kernel_rfl
theorem stood_hrd : Try.prog.stoodInHeld 35 = false := by kernel_rfl
theorem guardT_hrd : Try.prog.eqGuardType Try.prog.depth 35 = false := by kernel_rfl
theorem eq_ear (r r' : ByteArray) (w : World) : (Op.equalIn 10000 28 (ear r) (ear r')).run Try.prog w = .ok (r.toList == r'.toList) w := by
  rw [run_equalIn_struct w 9999 28 _ _ und_ear stood_ear]
  simp [go_sem]
  by_cases h : r.toList = r'.toList <;> simp [h]
theorem eql_ear (r : ByteArray) (w : World) : (binOp .eql 28 (ear r) (ear r)).run Try.prog w = .ok (.bool true) w := by
  rw [run_eql_struct, eq_ear]; simp [Result.andThen]
theorem eq_hrd (t t' : ByteArray) (c c' : Int) (w : World) : (Op.equalIn 10000 35 (hrd t c) (hrd t' c')).run Try.prog w = .ok (t.toList == t'.toList && c == c') w := by
  rw [run_equalIn_struct w 9999 35 _ _ und_hrd stood_hrd]
  simp [go_sem]
  by_cases h1 : t.toList = t'.toList <;> by_cases h2 : c = c' <;> simp [h1, h2]
theorem neq_hrd (t : ByteArray) (c : Int) (w : World) : (binOp .neq 35 (hrd t c) (hrd t c)).run Try.prog w = .ok (.bool false) w := by
  rw [run_neq_struct, eq_hrd]; simp [Result.andThen]
theorem eql_hrd (t : ByteArray) (c : Int) (w : World) : (binOp .eql 35 (hrd t c) (hrd t c)).run Try.prog w = .ok (.bool true) w := by
  rw [run_eql_struct, eq_hrd]; simp [Result.andThen]

/-- a slice whose cells hold what was heard -/
def Hcs (w : World) (a : Option Addr) (L : List (List Int × Int)) : Prop :=
  ∀ j p, L[j]? = some p → ∃ g, a = some ⟨g, 0, none⟩ ∧ w.cell? ⟨g, j * 2, none⟩ = some (.string (strOfNums p.1)) ∧ w.cell? ⟨g, j * 2 + 1, none⟩ = some (.int .i64 p.2)
theorem hcells_get (L : List (List Int × Int)) : ∀ (j : Nat) (p : List Int × Int), L[j]? = some p → (hcells L)[j * 2]? = some (.string (strOfNums p.1)) ∧ (hcells L)[j * 2 + 1]? = some (.int .i64 p.2) := by
  induction L with
  | nil => intro j p h; simp at h
  | cons q L ih =>
    intro j p h
    have e : hcells (q :: L) = .string (strOfNums q.1) :: .int .i64 q.2 :: hcells L := rfl
    rw [e]
    cases j with
    | zero => simp at h; subst h; simp
    | succ j =>
      have := ih j p (by simpa using h)
      rw [show (j + 1) * 2 = j * 2 + 1 + 1 by omega]
      simpa using this
theorem Hrs.form {w : World} {B : Nat} {v : Value} {L : List (List Int × Int)} (h : Hrs w B v L) : ∃ a cap, v = .slice a L.length cap ∧ cap ≤ maxLen ∧ L.length ≤ cap ∧ Hcs w a L := by
  rcases h.2 with ⟨rfl, h0⟩ | ⟨g, cap, cur, rfl, hb, hg, hn, hm, hs, ht⟩
  · have : L = [] := List.eq_nil_of_length_eq_zero h0
    subst this
    exact ⟨none, 0, rfl, Nat.zero_le _, Nat.le_refl _, fun j p hj => by simp at hj⟩
  · refine ⟨_, _, rfl, hm, hn, fun j p hj => ⟨g, rfl, ?_, ?_⟩⟩
    · have hlt := (List.getElem?_eq_some_iff.1 hj).1
      rw [World.ownsRow.cellAt h _ (by omega)]; exact (hcells_get L j p hj).1
    · have hlt := (List.getElem?_eq_some_iff.1 hj).1
      rw [World.ownsRow.cellAt h _ (by omega)]; exact (hcells_get L j p hj).2

set_option maxHeartbeats 2000000 in
theorem equal_any (a b : Option Addr) (c d : Nat) (L : List (List Int × Int)) (w : World) (ha : Hcs w a L) (hb : Hcs w b L) (hc : c ≤ maxLen) (hd : d ≤ maxLen) (hlc : L.length ≤ c) (hld : L.length ≤ d) :
    Calls Try.prog 9 #[.slice a L.length c, .slice b L.length d] w fun e w' => e = .returned (.bool true) ∧ Below w.heap.size w w' := by
  have HA : Hid (Hcs w a L) := ha
  have HB : Hid (Hcs w b L) := hb
  unfold maxLen at hc hd
  have hneq := neq_hrd
  clear ha hb
  go_enter Try.func9, Try.ntmps9
  go_wp2
  go_loopw [13] (fun i wr => ∃ (k q : Nat), k ≤ L.length ∧ i = .int .i64 (k : Int) ∧ wr = w.drewN q) (fun i _ => L.length - (intOf i).toNat)
  case atStart => exact ⟨0, 0, Nat.zero_le _, rfl, rfl⟩
  case round =>
    obtain ⟨k, q, hk, rfl, rfl⟩ := hrel
    by_cases hlt : k < L.length
    · obtain ⟨g, rfl, c1, c2⟩ := HA.out k L[k] (List.getElem?_eq_getElem hlt)
      obtain ⟨g', rfl, d1, d2⟩ := HB.out k L[k] (List.getElem?_eq_getElem hlt)
      generalize strOfNums L[k].1 = t at c1 d1
      generalize L[k].2 = z at c2 d2
      have hq := hneq t z
      clear HA HB hneq
      go_wp2
      go_region
      go_wp2
      go_roundw
      case rel => exact ⟨k + 1, q + _, by omega, by go_num, rfl⟩
      case measure => simp [intOf]; omega
    · go_wp2
      go_ret
      exact ⟨rfl, below_drewN (Below.refl _ _) _⟩
end Go.Proofs.Ytbkdalgmhmaofab.lane
