/- plugkeep's hub: a port is given power. -/
import Derived.Test.YtdnmjeiljpdmcaaHubN
import Derived.Test.YtdnmjeiljpdmcaaHubI
namespace Go.Proofs.Ytdnmjeiljpdmcaa.hub
open Go Go.RowKit
open Go.Proofs.Ytdnmjeiljpdmcaa.slots (cl cl_at cl_set cl_ext allF allF_step allF_end allF_iff anyF)
open Go.PlainAid
open Go.Proofs.Ytdnmjeiljpdmcaa.lane (nums)
open Go.Proofs.Ytdnmjeiljpdmcaa.setup (rK rN rC wrT good write_read)
set_option linter.unusedVariables false
set_option linter.unusedSimpArgs false
set_option maxRecDepth 100000

def liveQ : ByteArray := ⟨#[35, 3, 8, 0, 2, 0, 0, 0]⟩
theorem live_q : wrT 9 8 2 0 = liveQ := by
  unfold wrT
  rw [if_pos (by decide)]
  have : setup.txt 9 8 2 0 = [35, 3, 8, 0, 2, 0, 0, 0] := by decide
  rw [this]; rfl
theorem qs_asked {k v i l : Int} (h : good k v i l = true) : qs (wrT k v i l) = ⟨0, k, v, i⟩ := by
  obtain ⟨e1, e2, e3, _, e5, _⟩ := write_read h
  unfold qs
  rw [e1, e2, e3, e5]
theorem live_qs : qs liveQ = ⟨0, 9, 8, 2⟩ := by rw [← live_q]; exact qs_asked (by decide)
theorem live_V : ctlV (hub0 2) ⟨0, 9, 8, 2⟩ = setP (hub0 2) 2 256 0 := by decide +kernel
theorem live_E : ctlE (hub0 2) ⟨0, 9, 8, 2⟩ = 0 := by decide +kernel
theorem live_T : ctlT (hub0 2) ⟨0, 9, 8, 2⟩ = [] := by decide +kernel
theorem live_C : chk (setP (hub0 2) 2 256 0) = 0 := by decide +kernel
theorem live_G : cgT (setP (hub0 2) 2 256 0) = [0] := by decide +kernel
theorem cl_hub0 (n : Int) (j : Nat) : cl (hub0 n) j = if j = 0 then n else 0 := by
  unfold cl hub0
  cases j with
  | zero => rfl
  | succ j =>
    rw [if_neg (by omega), List.getD_eq_getElem?_getD, List.getElem?_cons_succ, List.getElem?_replicate]
    split <;> rfl
theorem hub0_hb {n : Int} (h1 : -9223372036854775808 ≤ n) (h2 : n ≤ 9223372036854775807) : Hb (hub0 n) := by
  refine ⟨hub0_len n, fun j => ?_, fun j => ?_⟩ <;> (rw [cl_hub0]; split <;> omega)
set_option maxHeartbeats 4000000 in
theorem lives_any (w : World) : Calls Try.prog 19 #[] w fun e w' => e = .returned (.bool true) ∧ Below w.heap.size w w' := by
  have HCt : Hid (∀ u, Calls Try.prog 15 #[ag (hub0 2), .string ⟨#[35, 3, 8, 0, 2, 0, 0, 0]⟩] u fun e w' => e = .returned (.tuple #[ag (setP (hub0 2) 2 256 0), .string ⟨#[]⟩, .int .i64 0]) ∧ Below u.heap.size u w') := fun u => by
    have := control_any (hub0 2) liveQ u (hub0_hb (by omega) (by omega)) (by show 8 ≤ _; unfold maxLen; omega)
    unfold ctS at this
    rw [live_qs, live_V, live_E, live_T] at this
    exact this
  have hok : Ok (setP (hub0 2) 2 256 0) := chk_ok (by rw [setP_len, hub0_len]) live_C
  have HCg : Hid (∀ u, Calls Try.prog 17 #[ag (setP (hub0 2) 2 256 0)] u fun e w' => e = .returned (.tuple #[.string ⟨#[0]⟩, .int .i64 0]) ∧ Below u.heap.size u w') := fun u => by
    have := changes_any _ u hok.hb
    rw [live_G, live_C] at this
    exact this
  have HL : Hid ((setP (hub0 2) 2 256 0).length = 33) := hok.len
  have HG : Hid ((setP (hub0 2) 2 256 0)[5]? = some 256) := by show _ = _; decide +kernel
  have hb2 := bld_H 2
  have hM := Mm.nil w
  clear hok
  generalize setP (hub0 2) 2 256 0 = G at *
  generalize hub0 2 = F at *
  have HC : Hid (cut G 0 33 = G) := cut_all HL.out
  have HE : Hid (0 + 33 ≤ G.length) := by show 0 + 33 ≤ _; rw [HL.out]; omega
  go_enter Try.func19, Try.ntmps19
  repeat' (first | (go_big_may; first | (refine a_build rfl rfl hb2 (by simp [Act.eval]) ?_)) | go_values | go_skip | go_guarded | go_step | go_upon | (simp only [Int.not_lt, Int.not_le] at *; go_simp))
  refine (HCt.out _).mono ?_
  rintro r u ⟨rfl, hv⟩
  replace hM := hM.call hv
  clear hv
  repeat' (first | (go_big_may; first | (refine a_alloc rfl zer_hub rfl ?_; intro u za hN; replace hM := hM.new hN; clear hN) | (refine a_fill rfl rfl row_hub rfl rfl hM.at0 HL.out rep_33 ?_; intro u hv hc; replace hM := hM.put0 hc hv; clear hv hc) | (refine a_load rfl rfl row_hub rfl hM.at0 HE.out HC.out ?_)) | go_values | go_skip | go_guarded | go_step | go_upon | (simp only [Int.not_lt, Int.not_le] at *; go_simp))
  refine (HCg.out _).mono ?_
  rintro r u ⟨rfl, hv⟩
  replace hM := hM.call hv
  clear hv
  repeat' (first | (go_big_may; first | (refine a_get rfl rfl rfl hM.at0 HG.out ?_)) | go_values | go_skip | go_guarded | go_step | go_upon | (simp only [Int.not_lt, Int.not_le] at *; go_simp))
  go_ret
  exact ⟨rfl, hM.below⟩
end Go.Proofs.Ytdnmjeiljpdmcaa.hub
