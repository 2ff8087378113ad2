/- PhyAgain: the walk. -/
import Derived.Test.YtbkdalgmhmaofabPhyI
import Derived.Test.YtbkdalgmhmaofabPhyG
namespace Go.Proofs.Ytbkdalgmhmaofab.phyAgain
open Go.RowKit Go.PlainAid Go.Proofs.Ytbkdalgmhmaofab.lane

theorem again (h n l : List Int) (hl : Byt l) (hz : sizedL l.length = 0) : (hearL h (n ++ [48, 48, 74, 48, 48, 74] ++ sentL l)).2 = [] ∧ ∃ M, (hearL h (n ++ [48, 48, 74, 48, 48, 74] ++ sentL l)).1 = M ++ [(l, 0)] := by
  have hs := hear_sent l [] hl hz
  rw [List.append_nil, hear_nil] at hs
  rw [hear_cut, hear_cut n, two_ends, hs]
  exact ⟨rfl, _, rfl⟩
theorem sig_sent (l : List Int) : sigB (sentL l) = true := by
  unfold sentL
  rw [sigB_append]
  have h := levB_wave l
  have : sigB (waveL l) = true := by
    unfold levB at h
    unfold sigB
    rw [List.all_eq_true] at *
    intro x hx
    have := h x hx
    unfold lev at this
    unfold sig
    rw [this]; rfl
  rw [this]; rfl
set_option linter.unusedVariables false
set_option maxHeartbeats 2000000 in
theorem walk (a0 : ByteArray) (a1 : ByteArray) (a2 : ByteArray) (w0 : a0.size ≤ maxLen) (w1 : a1.size ≤ maxLen) (w2 : a2.size ≤ maxLen) (hs0 : a0.size ≤ 1048576) (hs1 : a1.size ≤ 1048576) (hs2 : a2.size ≤ 1048576) (w : World) :
    Calls Try.prog 4 #[ear a0, .string a1, .string a2] w fun e w' => e = .returned (.bool true) ∧ Below w.heap.size w w' := by
  have HL : Hid (∀ w : World, Calls Try.prog 5 #[] w fun r w' => r = .returned (.bool true) ∧ Below w.heap.size w w') := phyLives_any
  have HS : Hid (∀ w, Calls Try.prog 10 #[.string a2] w fun e w' => e = .returned (.tuple #[.string (sentS a2), .int .i64 (sizedL a2.size)]) ∧ Below w.heap.size w w') := fun w => send_any a2 w w2
  clear w0 w1 w2
  rcases sized_cases a2.size with ⟨h0, h1, h2⟩ | ⟨h0, h1⟩
  · have es : sentS a2 = strOfNums (sentL (nums a2)) := if_pos h0
    rw [h0] at HS
    have hz : (sentS a2).size ≤ 759 := by
      rw [es, str_size]
      unfold sentL
      rw [List.length_append]
      have := wave_short (nums a2) (by rw [nums_length]; exact h0)
      show _ + 3 ≤ _
      omega
    have en : nums (sentS a2) = sentL (nums a2) := by rw [es, nums_str _ (byt_sent _)]
    obtain ⟨t, ht⟩ : ∃ t, sentS a2 = t := ⟨_, rfl⟩
    rw [ht] at HS hz en
    clear es ht
    have ez : (a1 ++ (⟨#[48, 48, 74, 48, 48, 74]⟩ : ByteArray)).size = a1.size + 6 := by rw [ByteArray.size_append]; rfl
    obtain ⟨x, hx⟩ : ∃ x, a1 ++ (⟨#[48, 48, 74, 48, 48, 74]⟩ : ByteArray) = x := ⟨_, rfl⟩
    rw [hx] at ez
    have ey : (x ++ t).size = x.size + t.size := ByteArray.size_append
    obtain ⟨y, hy⟩ : ∃ y, x ++ t = y := ⟨_, rfl⟩
    rw [hy] at ey
    have eny : nums y = nums a1 ++ [48, 48, 74, 48, 48, 74] ++ sentL (nums a2) := by
      rw [← hy, nums_append, en, ← hx, nums_append]; rfl
    cases hsg : sigB (nums y) && sigB (nums a0)
    · have HH : Hid (∀ w, Calls Try.prog 7 #[ear a0, .string y] w fun e w' => e = .returned (.tuple #[ear a0, .slice none 0 0, .int .i64 1]) ∧ Below w.heap.size w w') := fun w => hear_no a0 y w (by unfold maxLen; omega) (by unfold maxLen; omega) (Bool.and_eq_false_iff.1 hsg)
      clear hsg eny en h0
      go_enter Try.func4, Try.ntmps4
      go_wp2_with fail
      refine (HS.out _).mono ?_
      rintro e u ⟨rfl, hb⟩
      have hb0 : Below w.heap.size w (w.alloc (.cells #[.string a0] 28)) := balloc w _
      have c0 : u.cell? ⟨w.heap.size, 0, none⟩ = some (.string a0) := (hb.cell (p := ⟨w.heap.size, 0, none⟩) (by simp)).trans (by go_simp)
      have hlt : w.heap.size < u.heap.size := Nat.lt_of_lt_of_le (by simp) hb.size
      have HB : Hid (Below w.heap.size w u) := bsq hb0 hb
      clear hb hb0
      go_wp2_with fail
      refine (HL.out _).mono ?_
      rintro e u1 ⟨rfl, hb⟩
      have c1 : u1.cell? ⟨w.heap.size, 0, none⟩ = some (.string a0) := (hb.cell (p := ⟨w.heap.size, 0, none⟩) hlt).trans c0
      have HB1 : Hid (Below w.heap.size w u1) := bsq HB.out hb
      clear hb c0 HB
      go_wp2_with fail
      refine (HH.out _).mono ?_
      rintro e u2 ⟨rfl, hb⟩
      have HB2 : Hid (Below w.heap.size w u2) := bsq HB1.out hb
      clear hb c1 HB1
      go_wp2
      go_ret
      exact ⟨rfl, HB2.out.alloc HB2.out.size _⟩
    · rw [Bool.and_eq_true] at hsg
      obtain ⟨e1, M, e2⟩ := again (nums a0) (nums a1) (nums a2) (nums_byt a2) (by rw [nums_length]; exact h0)
      rw [← eny] at e1 e2
      have HH : Hid (∀ w, Calls Try.prog 7 #[ear a0, .string y] w fun e w' => ∃ g cap, e = .returned (.tuple #[ear ⟨#[]⟩, .slice (some ⟨g, 0, none⟩) (M.length + 1) cap, .int .i64 0]) ∧ M.length + 1 ≤ cap ∧ cap ≤ maxLen ∧ g < w'.heap.size ∧ w'.cell? ⟨g, M.length * 2, none⟩ = some (.string a2) ∧ w'.cell? ⟨g, M.length * 2 + 1, none⟩ = some (.int .i64 0) ∧ Below w.heap.size w w') := fun w => by
        refine (hear_ok a0 y w (by omega) (by omega) hsg.1 hsg.2).mono ?_
        rintro e w' ⟨v, rfl, hr, hb⟩
        rw [e1]
        rw [e2] at hr
        obtain ⟨a, cap, rfl, hm, hl, hc⟩ := hr.form
        obtain ⟨g, rfl, q1, q2⟩ := hc M.length (nums a2, 0) (by simp)
        rw [str_nums] at q1
        have hlt := World.block_lt_of_cell? w' _ q1
        simp only [List.length_append, List.length_cons, List.length_nil] at hl ⊢
        exact ⟨g, cap, rfl, hl, hm, hlt, q1, q2, hb⟩
      have hq1 := eql_ear ⟨#[]⟩
      have hq2 := eql_hrd a2 0
      have hM : M.length ≤ 2000000 := by
        have := (hear_length (nums y) (nums a0)).2
        rw [e2, List.length_append, nums_length] at this
        simp at this
        omega
      generalize M.length = m at *
      clear hsg eny en h0 e1 e2
      go_enter Try.func4, Try.ntmps4
      go_wp2_with fail
      refine (HS.out _).mono ?_
      rintro e u ⟨rfl, hb⟩
      have hb0 : Below w.heap.size w (w.alloc (.cells #[.string a0] 28)) := balloc w _
      have c0 : u.cell? ⟨w.heap.size, 0, none⟩ = some (.string a0) := (hb.cell (p := ⟨w.heap.size, 0, none⟩) (by simp)).trans (by go_simp)
      have hlt : w.heap.size < u.heap.size := Nat.lt_of_lt_of_le (by simp) hb.size
      have HB : Hid (Below w.heap.size w u) := bsq hb0 hb
      clear hb hb0
      go_wp2_with fail
      refine (HL.out _).mono ?_
      rintro e u1 ⟨rfl, hb⟩
      have c1 : u1.cell? ⟨w.heap.size, 0, none⟩ = some (.string a0) := (hb.cell (p := ⟨w.heap.size, 0, none⟩) hlt).trans c0
      have HB1 : Hid (Below w.heap.size w u1) := bsq HB.out hb
      clear hb c0 HB
      go_wp2_with fail
      refine (HH.out _).mono ?_
      rintro e u2 ⟨g, cap, rfl, hcp, hcm, hgl, q1, q2, hb⟩
      have HB2 : Hid (Below w.heap.size w u2) := bsq HB1.out hb
      have r1 : (u2.alloc (.cells #[.string ⟨#[]⟩] 28)).cell? ⟨g, m * 2, none⟩ = some (.string a2) := ((balloc u2 _).cell (p := ⟨g, m * 2, none⟩) hgl).trans q1
      have r2 : (u2.alloc (.cells #[.string ⟨#[]⟩] 28)).cell? ⟨g, m * 2 + 1, none⟩ = some (.int .i64 0) := ((balloc u2 _).cell (p := ⟨g, m * 2 + 1, none⟩) hgl).trans q2
      have r3 : (u2.alloc (.cells #[.string ⟨#[]⟩] 28)).cell? ⟨u2.heap.size, 0, none⟩ = some (.string ⟨#[]⟩) := by go_simp
      have HB3 : Hid (Below w.heap.size w (u2.alloc (.cells #[.string ⟨#[]⟩] 28))) := HB2.out.alloc HB2.out.size _
      unfold maxLen at hcm
      clear hb c1 HB1 q1 q2
      go_wp2
      go_ret
      exact ⟨rfl, HB3.out⟩
  · have es : sentS a2 = ⟨#[]⟩ := if_neg h0
    have hne : ((sizedL a2.size != 0) = true) := by simpa using h0
    rw [es] at HS
    obtain ⟨c, hc⟩ : ∃ c, sizedL a2.size = c := ⟨_, rfl⟩
    rw [hc] at HS hne
    clear hc h0 h1 es
    go_enter Try.func4, Try.ntmps4
    go_wp2_with fail
    refine (HS.out _).mono ?_
    rintro e u ⟨rfl, hb⟩
    have HB : Hid (Below w.heap.size w u) := bsq (balloc w _) hb
    clear hb
    go_wp2_with fail
    refine (HL.out _).mono ?_
    rintro e u1 ⟨rfl, hb⟩
    have HB1 : Hid (Below w.heap.size w u1) := bsq HB.out hb
    clear hb HB
    go_wp2_with fail
    refine (HL.out _).mono ?_
    rintro e u2 ⟨rfl, hb⟩
    have HB2 : Hid (Below w.heap.size w u2) := bsq HB1.out hb
    clear hb HB1
    go_wp2
    go_ret
    exact ⟨rfl, HB2.out⟩
end Go.Proofs.Ytbkdalgmhmaofab.phyAgain
