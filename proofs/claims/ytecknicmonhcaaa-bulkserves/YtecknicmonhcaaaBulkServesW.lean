/- BulkServes: the walk. -/
import Derived.Test.YtecknicmonhcaaaBulI
import Derived.Test.YtecknicmonhcaaaBulYz
namespace Go.Proofs.Ytecknicmonhcaaa.bulkServes
open Go Go.RowKit Go.PlainAid Go.Proofs.Ytecknicmonhcaaa.lane Go.Proofs.Ytecknicmonhcaaa.pipe Go.Proofs.Ytecknicmonhcaaa.strike Go.Proofs.Ytecknicmonhcaaa.bulk
set_option linter.unusedVariables false
set_option linter.unusedSimpArgs false
set_option maxRecDepth 100000

set_option maxHeartbeats 8000000 in
theorem walk (x0 : Value) (l0 : List ByteArray) (s0 : Int) (s t : ByteArray) (hs : s.size ≤ maxLen) (ht : t.size ≤ maxLen) (w : World) (hp : Rts w x0 l0) (hk : l0.length * 16 ≤ reachBytes) :
    Calls Try.prog 6 #[ag (dkl x0 s0), .string s, .string t] w fun e w' => e = .returned (.bool true) ∧ Below w.heap.size w w' := by
  obtain ⟨A, hA⟩ : ∃ A, svA ⟨l0, s0⟩ s t = A := ⟨_, rfl⟩
  obtain ⟨T, hT⟩ : ∃ T, svT ⟨l0, s0⟩ s t = T := ⟨_, rfl⟩
  obtain ⟨C, hC⟩ : ∃ C, tkE ⟨l0, s0⟩ s t = C := ⟨_, rfl⟩
  obtain ⟨N, hN⟩ : ∃ N, (svD ⟨l0, s0⟩ s t).b = N := ⟨_, rfl⟩
  obtain ⟨S, hS⟩ : ∃ S, (svD ⟨l0, s0⟩ s t).s = S := ⟨_, rfl⟩
  have H1 : Hid (∀ u, Rts u x0 l0 → Calls Try.prog 19 #[ag (dkl x0 s0), .string s, .string t] u fun e w' => ∃ a cp, e = .returned (.tuple #[ag (dkl (.slice a N.length cp) S), .string A, .string T, .int .i64 C]) ∧ Rts w' (.slice a N.length cp) N ∧ Below u.heap.size u w') := fun u hu => by
    refine (serve_any x0 ⟨l0, s0⟩ s t u hu (by unfold reachBytes at hk; show l0.length ≤ _; omega) hs ht).mono ?_
    rintro e w' ⟨v', rfl, hr, hb⟩
    rw [hN] at hr
    obtain ⟨a, cp, rfl, _, _⟩ := hr.form
    exact ⟨a, cp, by rw [hA, hT, hC, hS], hr.rts, hb⟩
  have H2 : Hid (∀ u, Rts u x0 l0 → Calls Try.prog 20 #[ag (dkl x0 s0), .string s, .string t] u fun e w' => ∃ a cp, e = .returned (.tuple #[ag (dkl (.slice a N.length cp) S), .string A, .string T, .int .i64 C]) ∧ Rts w' (.slice a N.length cp) N ∧ Below u.heap.size u w') := fun u hu => by
    refine (served_any x0 ⟨l0, s0⟩ s t u hu hs ht).mono ?_
    rintro e w' ⟨v', rfl, hr, hb⟩
    rw [hN] at hr
    obtain ⟨a, cp, rfl, _, _⟩ := scsi.rts_form hr
    exact ⟨a, cp, by rw [hA, hT, hC, hS], hr, hb⟩
  have H3 : Hid (∀ v1 v2 u, Rts u v1 N → Rts u v2 N → Calls Try.prog 21 #[ag (dkl v1 S), ag (dkl v2 S)] u fun e w' => e = .returned (.bool true) ∧ Below u.heap.size u w') := fun v1 v2 u a b => by
    have := scsi.same_any v1 v2 N N S S u a b
    rw [decide_eq_true rfl, decide_eq_true rfl] at this
    exact this
  have hC0 := rtp hp
  have hM := Mm.nil w
  have h1 : (A.toList == A.toList) = true := by simp
  have h2 : (T.toList == T.toList) = true := by simp
  clear hA hT hC hN hS hp hk hs ht
  generalize hnn : N.length = nn at *
  clear hnn
  go_enter Try.func6, Try.ntmps6
  repeat' (first | (go_big_may; first | (refine v_box rfl rfl rfl ?_; intro u zd hN; replace hM := hM.new hN; clear hN) | (refine v_load rfl rfl row_disk rfl hM.at0 (Nat.le_refl _) (cut_all rfl) ?_)) | go_values | go_skip | go_guarded | go_step | go_upon | (simp only [Int.not_lt, Int.not_le] at *; go_simp))
  refine (H1.out _ (hC0.call hM.below).out).mono ?_
  rintro e u1 ⟨xa, xc, rfl, hr, hb⟩
  replace hM := hM.call hb
  have hR := rtp hr
  clear hb hr H1
  repeat' (first | (go_big_may; first | (refine v_alloc rfl zer_disk rfl ?_; intro u za hN; replace hR := hR.call hN.below; replace hM := hM.new hN; clear hN) | (refine v_fill rfl rfl row_disk rfl rfl hM.at0 (dkl_vs (v := .slice xa nn xc) S rfl) rfl ?_; intro u hv hc; replace hR := rtp (rts_chg hR.out hM.at0 (fun x q => by cases q) hc); replace hM := hM.put0 hc hv; clear hv hc) | (refine v_load rfl rfl row_disk rfl hM.at1 (Nat.le_refl _) (cut_all rfl) ?_)) | go_values | go_skip | go_guarded | go_step | go_upon | (simp only [Int.not_lt, Int.not_le] at *; go_simp))
  refine (H2.out _ (hC0.call hM.below).out).mono ?_
  rintro e u2 ⟨ya, yc, rfl, hr, hb⟩
  replace hM := hM.call hb
  replace hR := hR.call hb
  have hQ := rtp hr
  clear hb hr H2 hC0
  repeat' (first | (go_big_may; first | (refine v_alloc rfl zer_disk rfl ?_; intro u zb hN; replace hR := hR.call hN.below; replace hQ := hQ.call hN.below; replace hM := hM.new hN; clear hN) | (refine v_fill rfl rfl row_disk rfl rfl hM.at0 (dkl_vs (v := .slice ya nn yc) S rfl) rfl ?_; intro u hv hc; replace hR := rtp (rts_chg hR.out hM.at0 (fun x q => by cases q) hc); replace hQ := rtp (rts_chg hQ.out hM.at0 (fun x q => by cases q) hc); replace hM := hM.put0 hc hv; clear hv hc) | (refine v_load rfl rfl row_disk rfl hM.at1 (Nat.le_refl _) (cut_all rfl) ?_) | (refine v_load rfl rfl row_disk rfl hM.at0 (Nat.le_refl _) (cut_all rfl) ?_)) | go_values | go_skip | go_guarded | go_step | go_upon | (simp only [Int.not_lt, Int.not_le] at *; go_simp))
  refine (H3.out _ _ _ hR.out hQ.out).mono ?_
  rintro e u3 ⟨rfl, hb⟩
  replace hM := hM.call hb
  clear hb H3 hR hQ
  repeat' (first | go_values | go_skip | go_guarded | go_step | go_upon | (simp only [Int.not_lt, Int.not_le] at *; go_simp))
  go_ret
  exact ⟨rfl, hM.below⟩
end Go.Proofs.Ytecknicmonhcaaa.bulkServes
