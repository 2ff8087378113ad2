/- plugref's phy: what TrimLeft, HasSuffix and only answer at Hear's calls. -/
import Derived.Test.YtbkdalgmhmaofaaDoorPhyR
import Derived.Test.YtbkdalgmhmaofaaDoorPhyH
namespace Go.Proofs.YtbkdalgmhmaofaaDoor.lane
open Go.RowKit Go.PlainAid
set_option linter.unusedVariables false

def trimL : List Int → List Int
  | [] => []
  | x :: r => if x = 74 then trimL r else x :: r
theorem hear_trim (l : List Int) : hearL [] (trimL l) = hearL [] l := by
  induction l with
  | nil => rfl
  | cons x r ih =>
    unfold trimL
    by_cases h : x = 74
    · rw [if_pos h, ih, h, hear_skip]
    · rw [if_neg h]
theorem trim_head (l : List Int) : ∀ x r, trimL l = x :: r → ¬ x = 74 := by
  induction l with
  | nil => intro x r h; cases h
  | cons y r ih =>
    intro x q h
    unfold trimL at h
    by_cases e : y = 74
    · rw [if_pos e] at h; exact ih x q h
    · rw [if_neg e] at h; injection h with h1 h2; rw [← h1]; exact e
theorem trim_length (l : List Int) : (trimL l).length ≤ l.length := by
  induction l with
  | nil => exact Nat.le_refl _
  | cons y r ih =>
    unfold trimL
    split
    · simp; omega
    · exact Nat.le_refl _
theorem trim_byt (l : List Int) (h : sigB l = true) : sigB (trimL l) = true := by
  induction l with
  | nil => rfl
  | cons y r ih =>
    have h2 : sig y = true ∧ sigB r = true := by
      have : (sig y && sigB r) = true := h
      simpa using this
    unfold trimL
    split
    · exact ih h2.2
    · exact h
theorem nums_one (s : ByteArray) (h : 1 ≤ s.size) : nums s = bt s 0 :: nums (s.extract 1 s.size) := by
  have := drop_nums s 0 (by omega)
  rw [List.drop_zero] at this
  rw [this, nums_extract, ← nums_length s, List.take_length]

def sLen : Value → Nat
  | .string b => b.size
  | _ => 0
set_option maxHeartbeats 1000000 in
theorem trimLeftByte_any (s : ByteArray) (w : World) (hs : s.size ≤ 4398046511104) :
    Calls Tryd.prog 36 #[.string s, .int .u8 74] w fun e w' => e = .returned (.string (strOfNums (trimL (nums s)))) ∧ w = w' := by
  go_enter Tryd.func36, Tryd.ntmps36
  go_wp2
  go_loop [0] (fun v => ∃ t : ByteArray, v = .string t ∧ t.size ≤ s.size ∧ Hid (trimL (nums t) = trimL (nums s))) (fun v => sLen v)
  case atStart => exact ⟨s, rfl, Nat.le_refl _, rfl⟩
  case round =>
    obtain ⟨t, rfl, ht, HR⟩ := hrel
    have hb := get_bt t
    by_cases h0 : t.size = 0
    · obtain rfl := str_nil t h0
      have HS : Hid (strOfNums (trimL (nums s)) = ⟨#[]⟩) := by
        have h := HR.out
        show _ = _
        rw [← h]; rfl
      clear HR hb
      go_wp2
      go_ret
      rw [HS.out]
      exact ⟨rfl, rfl⟩
    · have h1 : 1 ≤ t.size := by omega
      have hn := nums_one t h1
      by_cases h74 : bt t 0 = 74
      · have e74 : (bt t 0 == 74) = true := by simpa using h74
        have HN : Hid (trimL (nums (t.extract 1 t.size)) = trimL (nums s)) := by
          have h := HR.out
          rw [hn, h74] at h
          exact h
        have hz : (t.extract 1 t.size).size + 1 = t.size := by rw [ByteArray.size_extract]; omega
        clear HR hn h74 h0
        go_wp2
        go_round
        case rel => exact ⟨_, rfl, by omega, HN⟩
        case measure => simp [sLen]; omega
      · have e74 : (bt t 0 == 74) = false := by simpa using h74
        have HS : Hid (strOfNums (trimL (nums s)) = t) := by
          have h := HR.out
          show _ = _
          rw [← h, hn]
          unfold trimL
          rw [if_neg h74, ← hn, str_nums]
        clear HR hn h74 h0
        go_wp2
        go_ret
        rw [HS.out]
        exact ⟨rfl, rfl⟩
set_option maxRecDepth 100000 in
set_option maxHeartbeats 1000000 in
theorem trimLeft_any (s : ByteArray) (w : World) (hs : s.size ≤ 4398046511104) :
    Calls Tryd.prog 20 #[.string s, .string ⟨#[74]⟩] w fun e w' => e = .returned (.string (strOfNums (trimL (nums s)))) ∧ w = w' := by
  have H : Hid (∀ w, Calls Tryd.prog 36 #[.string s, .int .u8 74] w fun e w' => e = .returned (.string (strOfNums (trimL (nums s)))) ∧ w = w') := fun w => trimLeftByte_any s w hs
  by_cases h0 : s.size = 0
  · obtain rfl := str_nil s h0
    clear H
    go_enter Tryd.func20, Tryd.ntmps20
    go_wp2
    go_ret
    exact ⟨rfl, rfl⟩
  · have hf := str_full s (by omega)
    generalize strOfNums (trimL (nums s)) = t at H ⊢
    clear h0
    go_enter Tryd.func20, Tryd.ntmps20
    go_wp2_with fail
    refine (H.out _).mono ?_
    rintro e u ⟨rfl, rfl⟩
    go_wp2
    go_ret
    exact ⟨rfl, rfl⟩
set_option maxHeartbeats 1000000 in
theorem hasSuffixLite_any (s : ByteArray) (w : World) (hs : s.size ≤ 4398046511104) :
    Calls Tryd.prog 40 #[.string s, .string ⟨#[48, 48, 74]⟩] w fun e w' => e = .returned (.bool (endsL (nums s))) ∧ w = w' := by
  by_cases h3 : 3 ≤ s.size
  · obtain ⟨m, hm⟩ : ∃ m, s.size = m + 3 := ⟨s.size - 3, by omega⟩
    have he : ((s.extract m (m + 3)).toList == ([48, 48, 74] : List UInt8)) = endsL (nums s) := by
      have e3 : ([48, 48, 74] : List UInt8) = (⟨#[48, 48, 74]⟩ : ByteArray).toList := by rw [ByteArray.toList_eq]
      rw [e3, toList_beq]
      have en : nums (s.extract m (m + 3)) = (nums s).drop m := by
        rw [nums_extract, ← hm, ← nums_length s, List.take_length]
      unfold endsL
      rw [nums_length, decide_eq_true h3, Bool.true_and, hm, show m + 3 - 3 = m by omega]
      by_cases c : (nums s).drop m = endL
      · rw [c, decide_eq_true]
        · rfl
        · apply nums_inj
          rw [en, c]; rfl
      · have c1 : ((nums s).drop m == endL) = false := by simpa using c
        rw [c1]
        apply decide_eq_false
        intro q
        apply c
        rw [← en, q]; rfl
    generalize endsL (nums s) = b at he ⊢
    clear h3
    go_enter Tryd.func40, Tryd.ntmps40
    go_wp2
    go_ret
    exact ⟨rfl, rfl⟩
  · have e : endsL (nums s) = false := by unfold endsL; rw [decide_eq_false (by rw [nums_length]; exact h3)]; rfl
    rw [e]
    clear e
    go_enter Tryd.func40, Tryd.ntmps40
    go_wp2
    go_ret
    exact ⟨rfl, rfl⟩
theorem hasSuffix_str (s : ByteArray) (w : World) (hs : s.size ≤ 4398046511104) :
    Calls Tryd.prog 21 #[.string s, .string ⟨#[48, 48, 74]⟩] w fun e w' => e = .returned (.bool (endsL (nums s))) ∧ w = w' := by
  have H : Hid (∀ w, Calls Tryd.prog 40 #[.string s, .string ⟨#[48, 48, 74]⟩] w fun e w' => e = .returned (.bool (endsL (nums s))) ∧ w = w') := fun w => hasSuffixLite_any s w hs
  generalize endsL (nums s) = b at H ⊢
  go_enter Tryd.func21, Tryd.ntmps21
  go_wp2_with fail
  refine (H.out _).mono ?_
  rintro e u ⟨rfl, rfl⟩
  go_wp2
  go_ret
  exact ⟨rfl, rfl⟩
theorem idx_sig_all : ∀ n : Fin 256, sig (n.val : Int) = !decide (Lib.indexByte [74, 75, 48] (n.val : Int).toNat.toUInt8 < 0) := by decide +kernel
theorem idx_sig (x : Int) (h0 : 0 ≤ x) (h1 : x ≤ 255) : sig x = !decide (Lib.indexByte [74, 75, 48] x.toNat.toUInt8 < 0) := by
  have h := idx_sig_all ⟨x.toNat, by omega⟩
  have e : ((x.toNat : Nat) : Int) = x := by omega
  simp only [e] at h
  exact h
theorem only_sig (s : ByteArray) (w : World) (hs : s.size ≤ maxLen) :
    Calls Tryd.prog 19 #[.string s, .string ⟨#[74, 75, 48]⟩] w fun e w' => e = .returned (.bool (sigB (nums s))) ∧ w = w' :=
  only_any s ⟨#[74, 75, 48]⟩ sig idx_sig w hs
end Go.Proofs.YtbkdalgmhmaofaaDoor.lane
