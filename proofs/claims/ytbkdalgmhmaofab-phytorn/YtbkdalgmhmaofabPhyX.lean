/- phy: what is heard of a wire that was cut, and how many ends it has: plain mathematics. -/
import Derived.Test.YtbkdalgmhmaofabPhyV
import Derived.Lib.CountLaws
namespace Go.Proofs.Ytbkdalgmhmaofab.lane
open Go.RowKit Go.PlainAid
set_option linter.unusedVariables false

def byteL (l : List Int) : List UInt8 := l.map fun n => UInt8.ofNat n.toNat
def cntL (l : List Int) : Nat := Lib.count (byteL l) [48, 48, 74]
theorem cnt_str (s : ByteArray) : Lib.countB s ⟨#[48, 48, 74]⟩ = cntL (nums s) := by
  have e : s.data.toList = byteL (nums s) := by
    have := congrArg (fun t : ByteArray => t.data.toList) (str_nums s)
    rw [← this]
    exact strOfNums_data (nums s)
  unfold cntL
  rw [← e]
theorem byte_append (a b : List Int) : byteL (a ++ b) = byteL a ++ byteL b := List.map_append
theorem byte_lev (v : List Int) (h : levB v = true) : ∀ y ∈ byteL v, y ≠ 48 := by
  intro y hy
  obtain ⟨x, hx, rfl⟩ := List.mem_map.1 hy
  unfold levB at h
  rw [List.all_eq_true] at h
  rcases lev_cases (h x hx) with rfl | rfl <;> decide
theorem index_step (y : UInt8) (l : List UInt8) (hy : y ≠ 48) : Lib.index (y :: l) [48, 48, 74] = if Lib.index l [48, 48, 74] == -1 then -1 else Lib.index l [48, 48, 74] + 1 := by
  have hp : ([48, 48, 74] : List UInt8).isPrefixOf (y :: l) = false := by
    have : (48 == y) = false := by simpa using fun e => hy e.symm
    simp [List.isPrefixOf, this]
  rw [Lib.index, hp]
  rfl
theorem index_wave (v : List UInt8) (hv : ∀ y ∈ v, y ≠ 48) (q : List UInt8) : Lib.index (v ++ ([48, 48, 74] ++ q)) [48, 48, 74] = v.length := by
  induction v with
  | nil => simp [Lib.index, List.isPrefixOf]
  | cons y v ih =>
    rw [List.cons_append, index_step _ _ (hv y (by simp)), ih (fun z hz => hv z (by simp [hz])), if_neg (by simp)]
    simp
theorem index_torn (v : List UInt8) (hv : ∀ y ∈ v, y ≠ 48) (q : List UInt8) (hq : Lib.index q [48, 48, 74] = -1) : Lib.index (v ++ q) [48, 48, 74] = -1 := by
  induction v with
  | nil => exact hq
  | cons y v ih =>
    rw [List.cons_append, index_step _ _ (hv y (by simp)), ih (fun z hz => hv z (by simp [hz]))]
    rfl
theorem cnt_sent (x r : List Int) : cntL (sentL x ++ r) = 1 + cntL r := by
  unfold cntL sentL
  rw [List.append_assoc, byte_append, byte_append]
  have hi := index_wave (byteL (waveL x)) (byte_lev _ (levB_wave x)) (byteL r)
  have he : byteL endL = [48, 48, 74] := by decide
  rw [he, Lib.count_hit (by simp) hi, ← List.append_assoc, List.drop_left' (by simp)]
theorem cnt_torn (v q : List Int) (hv : levB v = true) (hq : q = [] ∨ q = [48] ∨ q = [48, 48]) : cntL (v ++ q) = 0 := by
  unfold cntL
  rw [byte_append]
  apply Lib.count_miss
  apply index_torn _ (byte_lev v hv)
  rcases hq with rfl | rfl | rfl <;> decide
theorem levB_take' (v : List Int) (n : Nat) (h : levB v = true) : levB (v.take n) = true := by
  unfold levB at *
  rw [List.all_eq_true] at *
  intro x hx
  exact h x (List.mem_of_mem_take hx)
theorem hear_torn (v q : List Int) (hv : levB v = true) (h1 : v = [] ∨ ∃ t, v = 75 :: t) (hl : v.length ≤ 900) (hq : q = [] ∨ ((q = [48] ∨ q = [48, 48]) ∧ ¬ v = [])) : (hearL [] (v ++ q)).1 = [] := by
  rcases h1 with rfl | h1
  · rcases hq with rfl | ⟨_, hq⟩
    · rfl
    · exact absurd rfl hq
  · rw [hear_wave v q hv h1 (by omega)]
    rcases hq with rfl | ⟨rfl | rfl, _⟩
    · rw [hear_nil]
    · rw [hear_zero _ _ (by omega), hear_nil]
    · rw [hear_zero _ _ (by omega), hear_zero _ _ (by simp; omega), hear_nil]
theorem sent_length (x : List Int) : (sentL x).length = (waveL x).length + 3 := by unfold sentL; rw [List.length_append]; rfl
/-- a strict front of what is sent -/
theorem sent_torn (x : List Int) (n : Nat) (hz : sizedL x.length = 0) (hn : n < (sentL x).length) : (hearL [] ((sentL x).take n)).1 = [] ∧ cntL ((sentL x).take n) = 0 := by
  have hw := wave_short x hz
  have hlen := sent_length x
  obtain ⟨t, ht⟩ := wave_head x
  by_cases h0 : n ≤ (waveL x).length
  · have e : (sentL x).take n = (waveL x).take n ++ [] := by
      unfold sentL
      rw [List.take_append_of_le_length h0, List.append_nil]
    rw [e]
    refine ⟨hear_torn _ _ (levB_take' _ _ (levB_wave x)) ?_ (by rw [List.length_take]; omega) (.inl rfl), cnt_torn _ _ (levB_take' _ _ (levB_wave x)) (.inl rfl)⟩
    rw [ht]
    cases n with
    | zero => left; rfl
    | succ n => right; exact ⟨_, rfl⟩
  · have e : ∃ q, (sentL x).take n = waveL x ++ q ∧ (q = [48] ∨ q = [48, 48]) := by
      unfold sentL
      refine ⟨endL.take (n - (waveL x).length), by rw [List.take_append, List.take_of_length_le (by omega)], ?_⟩
      have : n - (waveL x).length = 1 ∨ n - (waveL x).length = 2 := by omega
      rcases this with e | e <;> rw [e]
      · left; rfl
      · right; rfl
    obtain ⟨q, e, hq⟩ := e
    rw [e]
    exact ⟨hear_torn _ _ (levB_wave x) (.inr ⟨t, ht⟩) (by omega) (.inr ⟨hq, by rw [ht]; simp⟩), cnt_torn _ _ (levB_wave x) (.inr hq)⟩
theorem torn (g : List (List Int)) (hg : ∀ x ∈ g, Byt x ∧ sizedL x.length = 0) : ∀ k, ∃ n, n ≤ g.length ∧ (hearL [] ((g.flatMap sentL).take k)).1 = (g.map fun x => (x, (0 : Int))).take n ∧ cntL ((g.flatMap sentL).take k) = n := by
  induction g with
  | nil => intro k; exact ⟨0, Nat.le_refl _, by simp [hear_nil], by simp; decide⟩
  | cons x g ih =>
    intro k
    obtain ⟨hb, hz⟩ := hg x (by simp)
    have e : (x :: g).flatMap sentL = sentL x ++ g.flatMap sentL := rfl
    by_cases hk : k < (sentL x).length
    · obtain ⟨h1, h2⟩ := sent_torn x k hz hk
      rw [e, List.take_append_of_le_length (by omega)]
      exact ⟨0, Nat.zero_le _, by rw [h1]; rfl, h2⟩
    · obtain ⟨n, hn, h1, h2⟩ := ih (fun y hy => hg y (by simp [hy])) (k - (sentL x).length)
      have e2 : ((x :: g).flatMap sentL).take k = sentL x ++ (g.flatMap sentL).take (k - (sentL x).length) := by
        rw [e, List.take_append, List.take_of_length_le (by omega)]
      rw [e2]
      refine ⟨n + 1, by simp; omega, ?_, ?_⟩
      · rw [hear_sent x _ hb hz, h1]; simp
      · rw [cnt_sent, h2]; omega
theorem wire_flat (l : List ByteArray) : nums ⟨(wireB ⟨#[]⟩ l).toArray⟩ = ((l.filter goodS).map nums).flatMap sentL ∧ wantL l = ((l.filter goodS).map nums).map fun x => (x, (0 : Int)) := by
  refine ⟨?_, by unfold wantL; rw [List.map_map]; rfl⟩
  induction l with
  | nil => rfl
  | cons x l ih =>
    cases hg : goodS x
    · rw [(wire_skip _ x l hg).1, List.filter_cons_of_neg (by simp [hg])]; exact ih
    · rw [wire_cons _ x l hg, List.filter_cons_of_pos hg, ih]; rfl
/-- of a wire that was cut just the texts that had ended are heard -/
theorem wire_torn (l : List ByteArray) (k : Nat) : ∃ n, n ≤ (wantL l).length ∧ (hearL [] ((nums ⟨(wireB ⟨#[]⟩ l).toArray⟩).take k)).1 = (wantL l).take n ∧ cntL ((nums ⟨(wireB ⟨#[]⟩ l).toArray⟩).take k) = n := by
  obtain ⟨e1, e2⟩ := wire_flat l
  obtain ⟨n, h1, h2, h3⟩ := torn ((l.filter goodS).map nums) (fun x hx => by
    obtain ⟨s, hs, rfl⟩ := List.mem_map.1 hx
    have hg := (List.mem_filter.1 hs).2
    exact ⟨nums_byt s, by rw [nums_length]; exact (good_size s hg).1⟩) k
  rw [e1, e2]
  exact ⟨n, by rw [List.length_map]; exact h1, h2, h3⟩
end Go.Proofs.Ytbkdalgmhmaofab.lane
