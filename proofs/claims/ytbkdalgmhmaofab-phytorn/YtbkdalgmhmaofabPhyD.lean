/- phy: levels that are held in memory; what areSigns, CutSuffix and heard answer. -/
import Derived.Test.YtbkdalgmhmaofabPhyB
import Derived.Laws.BytesArg
import Derived.WalkSmall
namespace Go.Proofs.Ytbkdalgmhmaofab.lane
open Go.RowKit Go.PlainAid
set_option linter.unusedVariables false

theorem sig_in {x : Int} {a b : Bool} (h : (sig x && a) = b) (hx : (x != 74) = false ∨ (x != 75) = false ∨ (x != 48) = false) : a = b := by
  rcases hx with hx | hx | hx <;> (have e := bne_eq_false_iff_eq.1 hx; subst e; simpa [sig] using h)
set_option maxHeartbeats 400000 in
theorem areSigns_any (s : ByteArray) (w : World) (hs : s.size ≤ maxLen) :
    Calls Try.prog 14 #[.string s] w fun e w' => e = .returned (.bool (sigB (nums s))) ∧ w = w' := by
  unfold maxLen at hs
  have hb := get_bt s
  go_enter Try.func14, Try.ntmps14
  go_wp2
  go_loop [6] (fun i => ∃ k : Nat, k ≤ s.size ∧ i = .int .i64 k ∧ Hid (sigB ((nums s).drop k) = sigB (nums s))) (fun i => s.size - (intOf i).toNat)
  case atStart => exact ⟨0, Nat.zero_le _, rfl, rfl⟩
  case round =>
    obtain ⟨k, hk, rfl, hr⟩ := hrel
    by_cases hlt : k < s.size
    · have HR : Hid ((sig (bt s k) && sigB ((nums s).drop (k + 1))) = sigB (nums s)) := by
        have := hr.out
        rw [drop_nums s k hlt] at this
        exact this
      clear hr
      rcases Bool.eq_false_or_eq_true (sig (bt s k)) with hg | hg
      · have H2 : Hid (sigB ((nums s).drop (k + 1)) = sigB (nums s)) := by
          have h := HR.out; rw [hg, Bool.true_and] at h; exact h
        have hg2 : bt s k = 74 ∨ bt s k = 75 ∨ bt s k = 48 := by simpa [sig, or_assoc] using hg
        clear hg HR
        rcases hg2 with hg2 | hg2 | hg2
        · have e1 : (bt s k != 74) = false := by simp [hg2]
          clear hg2
          go_wp2
          go_round
          case rel => exact ⟨k + 1, by omega, by go_num, H2.out⟩
          case measure => simp [intOf]; omega
        · have e1 : (bt s k != 74) = true := by simp [hg2]
          have e2 : (bt s k != 75) = false := by simp [hg2]
          clear hg2
          go_wp2
          go_round
          case rel => exact ⟨k + 1, by omega, by go_num, H2.out⟩
          case measure => simp [intOf]; omega
        · have e1 : (bt s k != 74) = true := by simp [hg2]
          have e2 : (bt s k != 75) = true := by simp [hg2]
          have e3 : (bt s k != 48) = false := by simp [hg2]
          clear hg2
          go_wp2
          go_round
          case rel => exact ⟨k + 1, by omega, by go_num, H2.out⟩
          case measure => simp [intOf]; omega
      · have H2 : Hid (false = sigB (nums s)) := by
          have h := HR.out; rw [hg, Bool.false_and] at h; exact h
        have hg2 : (¬ bt s k = 74 ∧ ¬ bt s k = 75) ∧ ¬ bt s k = 48 := by simpa [sig] using hg
        have e1 : (bt s k != 74) = true := by simpa using hg2.1.1
        have e2 : (bt s k != 75) = true := by simpa using hg2.1.2
        have e3 : (bt s k != 48) = true := by simpa using hg2.2
        clear hg hg2 HR
        go_wp2
        go_ret
        exact ⟨ret_bool H2.out, rfl⟩
    · go_wp2
      go_ret
      have h := hr.out
      rw [drop_end s k (by omega)] at h
      exact ⟨ret_bool h, rfl⟩

/-- n of cap places of block g hold acc; all of them may be written -/
structure Hd (w : World) (g n cap : Nat) (acc : List Int) : Prop where
  len : acc.length = n
  le : n ≤ cap
  max : cap ≤ maxLen
  lt : g < w.heap.size
  cell : ∀ j, j < n → w.cell? ⟨g, j, none⟩ = some (.int .u8 (acc.getD j 0))
  some : ∀ j, j < cap → (w.cell? ⟨g, j, none⟩).isSome = true
  free : ∀ j, j < cap → w.frozen? ⟨g, j, none⟩ = false
theorem Hd.below {w u : World} {g n cap C : Nat} {acc : List Int} (h : Hd w g n cap acc) (hb : Below C w u) (hC : g < C) : Hd u g n cap acc :=
  ⟨h.len, h.le, h.max, Nat.lt_of_lt_of_le h.lt hb.size, fun j hj => (hb.cell (p := ⟨g, j, none⟩) hC).trans (h.cell j hj), fun j hj => by rw [hb.cell (p := ⟨g, j, none⟩) hC]; exact h.some j hj, fun j hj => (hb.frozen (p := ⟨g, j, none⟩) hC).trans (h.free j hj)⟩
theorem Hd.part {w : World} {g n cap : Nat} {acc : List Int} (h : Hd w g n cap acc) (a m c : Nat) (ham : a + m ≤ n) :
    (convert 41 9 (.slice (Option.some ⟨g, a, none⟩) m c)).run Try.prog w = .ok (.string (strOfNums ((acc.drop a).take m))) w := by
  have hl := h.len
  refine run_convert_bytes_arg w 41 5 Try.underlying41 Try.underlying5 g a m c ((acc.drop a).take m) (by rw [List.length_take, List.length_drop]; omega) ?_ 9 Try.underlying9
  intro i hi
  rw [h.cell (a + i) (by omega)]
  simp [List.getD, List.getElem?_drop, hi]
theorem Hd.conv {w : World} {g n cap : Nat} {acc : List Int} (h : Hd w g n cap acc) (c : Nat) :
    (convert 41 9 (.slice (Option.some ⟨g, 0, none⟩) n c)).run Try.prog w = .ok (.string (strOfNums acc)) w := by
  have := h.part 0 n c (by omega)
  rwa [List.drop_zero, List.take_of_length_le (by rw [h.len]; omega)] at this
theorem Hd.reset {w : World} {g n cap : Nat} {acc : List Int} (h : Hd w g n cap acc) : Hd w g 0 cap [] :=
  ⟨rfl, Nat.zero_le _, h.max, h.lt, fun j hj => by omega, h.some, h.free⟩

set_option maxHeartbeats 400000 in
theorem bytesEqual_any (x y : Value) (s t : ByteArray) (w : World) (hx : (convert 41 9 x).run Try.prog w = .ok (.string s) w) (hy : (convert 41 9 y).run Try.prog w = .ok (.string t) w) :
    Calls Try.prog 44 #[x, y] w fun e w' => e = .returned (.bool (decide (s = t))) ∧ w = w' := by
  have h := toList_beq s t
  go_enter Try.func44, Try.ntmps44
  go_wp2
  go_ret
  exact ⟨rfl, rfl⟩
theorem ends_iff (acc : List Int) (h : 3 ≤ acc.length) : endsL acc = decide (strOfNums ((acc.drop (acc.length - 3)).take 3) = (⟨#[48, 48, 74]⟩ : ByteArray)) ∨ ¬ Byt acc := by
  by_cases hb : Byt acc
  · left
    have hb2 : Byt ((acc.drop (acc.length - 3)).take 3) := fun x hx => hb x (List.mem_of_mem_drop (List.mem_of_mem_take hx))
    have e : (acc.drop (acc.length - 3)).take 3 = acc.drop (acc.length - 3) := List.take_of_length_le (by rw [List.length_drop]; omega)
    unfold endsL
    rw [decide_eq_true h, Bool.true_and]
    by_cases c : acc.drop (acc.length - 3) = endL
    · rw [e, c]; rfl
    · have c1 : (acc.drop (acc.length - 3) == endL) = false := by simpa using c
      rw [c1, decide_eq_false]
      intro q
      apply c
      have := congrArg nums q
      rw [nums_str _ hb2, e] at this
      exact this
  · exact .inr hb
theorem byt_sig {l : List Int} (h : sigB l = true) : Byt l := by
  intro x hx
  unfold sigB at h
  rw [List.all_eq_true] at h
  have := h x hx
  simp [sig] at this
  omega

set_option maxHeartbeats 1000000 in
theorem hasSuffix_any (g n cap B c : Nat) (acc : List Int) (w : World) (h : Hd w g n cap acc) (hs : sigB acc = true) (hB : (convert 41 9 (.slice (some ⟨B, 0, none⟩) 3 c)).run Try.prog w = .ok (.string ⟨#[48, 48, 74]⟩) w) :
    Calls Try.prog 39 #[.slice (some ⟨g, 0, none⟩) n cap, .slice (some ⟨B, 0, none⟩) 3 c] w fun e w' => e = .returned (.bool (endsL acc)) ∧ w = w' := by
  have hl := h.len
  have hle := h.le
  have hmx := h.max
  unfold maxLen at hmx
  by_cases h3 : 3 ≤ n
  · rcases ends_iff acc (by omega) with e | e
    · rw [hl] at e
      rw [e]
      have HE : Hid (∀ c', Calls Try.prog 44 #[.slice (some ⟨g, n - 3, none⟩) 3 c', .slice (some ⟨B, 0, none⟩) 3 c] w fun e w' => e = .returned (.bool (decide (strOfNums ((acc.drop (n - 3)).take 3) = (⟨#[48, 48, 74]⟩ : ByteArray)))) ∧ w = w') := fun c' =>
        bytesEqual_any _ _ _ _ w (h.part (n - 3) 3 c' (by omega)) hB
      generalize decide (strOfNums ((acc.drop (n - 3)).take 3) = (⟨#[48, 48, 74]⟩ : ByteArray)) = b at HE ⊢
      have HH : Hid (Hd w g n cap acc) := h
      obtain ⟨m, rfl⟩ : ∃ m, n = m + 3 := ⟨n - 3, by omega⟩
      rw [show m + 3 - 3 = m by omega] at HE
      clear h e hl hB hs
      go_enter Try.func39, Try.ntmps39
      go_wp2_with fail
      refine (HE.out _).mono ?_
      rintro r u ⟨rfl, rfl⟩
      go_wp2
      go_ret
      exact ⟨rfl, rfl⟩
    · exact absurd (byt_sig hs) e
  · have e : endsL acc = false := by unfold endsL; rw [decide_eq_false (by omega)]; rfl
    rw [e]
    clear h hs hB e
    go_enter Try.func39, Try.ntmps39
    go_wp2
    go_ret
    exact ⟨rfl, rfl⟩
end Go.Proofs.Ytbkdalgmhmaofab.lane
