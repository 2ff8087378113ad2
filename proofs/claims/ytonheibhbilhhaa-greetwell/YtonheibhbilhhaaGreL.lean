/- greet: a device of nothing is met. -/
import Derived.Test.YtonheibhbilhhaaGreV
import Derived.Test.YtonheibhbilhhaaGreR
import Derived.Test.YtonheibhbilhhaaZAp
namespace Go.Proofs.Ytonheibhbilhhaa.greet
open Go Go.RowKit Go.PlainAid Go.Proofs.Ytonheibhbilhhaa.lane Go.Proofs.Ytonheibhbilhhaa.desc Go.Proofs.Ytonheibhbilhhaa.gadget
set_option linter.unusedVariables false
set_option linter.unusedSimpArgs false
set_option maxRecDepth 100000

def d0 : Dv := ⟨0, 0, 0, 0, 8, 0, 0, 0, 0, 0, 0, 1⟩
def c0 : Cf := ⟨1, 0, 0, 0, []⟩
theorem shr0 (w : World) : Shr w c0 [] (.slice none 0 0) [] (.slice none 0 0) :=
  ⟨⟨⟨⟨none, 0, rfl, Nat.le_refl _, Nat.zero_le _, rfl, fun h => absurd h (by decide)⟩, fun q hq => by simp at hq⟩, rfl⟩, ⟨none, 0, rfl, Nat.le_refl _, Nat.zero_le _, rfl, fun h => absurd h (by decide)⟩, fun p hp => by simp at hp, fun p hp => by simp at hp⟩
theorem zer_sheet : Zer 50 (shl noD noC nilS nilS) := ⟨by kernel_rfl⟩
theorem bld_d0 (w : World) : (Instr.build 23 #[(4, .int .i64 8), (11, .int .i64 1)]).run Try.prog w = .ok (ag (dvl d0)) w := by kernel_rfl
theorem bld_c0 (w : World) : (Instr.build 26 #[(0, .int .i64 1)]).run Try.prog w = .ok (ag (cfl c0 nilS)) w := by kernel_rfl
theorem bld_s0 (w : World) : (Instr.build 50 #[(0, ag (dvl d0)), (1, ag (cfl c0 nilS))]).run Try.prog w = .ok (ag (shl d0 c0 nilS nilS)) w := by kernel_rfl
theorem bld_gd2 (a : Int) (w : World) : (Instr.build 52 #[(0, .int .i64 2), (1, .int .i64 a)]).run Try.prog w = .ok (ag (gdl 2 a 0)) w := by kernel_rfl
theorem bs_ones (w : World) : (Instr.buildSlice 43 7 #[(0, .int .i64 1), (1, .int .i64 1), (2, .int .i64 1), (3, .int .i64 1), (4, .int .i64 1), (5, .int .i64 1), (6, .int .i64 1)]).run Try.prog w = .ok (.slice (some ⟨w.heap.size, 0, none⟩) 7 7) (w.alloc (bx 3 (ivs [1, 1, 1, 1, 1, 1, 1]))) := by kernel_rfl
theorem shl0_vs : Vs (shl d0 c0 nilS nilS) 18 := ⟨rfl, fun v hv => by
  simp only [shl, dvl, cfl, List.cons_append, List.nil_append, List.mem_cons, List.not_mem_nil, or_false] at hv
  rcases hv with rfl | rfl | rfl | rfl | rfl | rfl | rfl | rfl | rfl | rfl | rfl | rfl | rfl | rfl | rfl | rfl | rfl | rfl <;> rfl⟩
theorem ris_box {w : World} {B : Nat} {T : TypeId} {l : List Int} (h : w.heap[B]? = some (bx T (ivs l))) (hl : l.length ≤ maxLen) : Ris w (.slice (some ⟨B, 0, none⟩) l.length l.length) l :=
  ⟨_, _, rfl, Nat.le_refl _, hl, fun _ => ⟨B, 0, rfl, bx_lt h, fun j x hx => by rw [Nat.zero_add]; exact bx_cell h (ivs_at hx)⟩⟩
def ones7 : List Int := [1, 1, 1, 1, 1, 1, 1]
theorem lives_beg : begE d0 c0 [] 5 ones7 = 0 := by decide +kernel
theorem lives_met : (metM d0 c0 [] 5 ones7).g.st = 8 ∧ (metM d0 c0 [] 5 ones7).g.d.m0 = 8 ∧ (metM d0 c0 [] 5 ones7).s = 2 ∧ (metM d0 c0 [] 5 ones7).a = 5 ∧ (metM d0 c0 [] 5 ones7).h = 0 ∧ (metM d0 c0 [] 5 ones7).n = 6 := by decide +kernel
theorem bare_any (w : World) : Calls Try.prog 32 #[] w fun e w' => e = .returned (ag (shl d0 c0 nilS nilS)) ∧ Below w.heap.size w w' := by
  have hM := Mm.nil w
  go_enter Try.func32, Try.ntmps32
  repeat' (first | (go_big_may; first | (refine v_alloc rfl zer_sheet rfl ?_; intro u za hN; replace hM := hM.new hN; clear hN) | (refine v_build rfl rfl bld_d0 ?hbv ?_; (case hbv => simp [Act.eval, Act.put])) | (refine v_build rfl rfl bld_c0 ?hbv ?_; (case hbv => simp [Act.eval, Act.put])) | (refine v_build rfl rfl bld_s0 ?hbv ?_; (case hbv => simp [Act.eval, Act.put])) | (refine v_fill rfl rfl row_sheet rfl rfl hM.at0 shl0_vs rfl ?_; intro u hv hc; replace hM := hM.put0 hc hv; clear hv hc)) | go_values | go_skip | go_guarded | go_step | go_upon | (simp only [Int.not_lt, Int.not_le] at *; go_simp))
  exact bodyPost_ret (ret_1 rfl rfl (ld_var row_sheet hM.at0 rfl)) rfl ⟨rfl, hM.below⟩
set_option maxHeartbeats 8000000 in
theorem lives_any (hco : CoAll) (w : World) : Calls Try.prog 16 #[] w fun e w' => e = .returned (.bool true) ∧ Below w.heap.size w w' := by
  have HM : Hid (∀ u vF, Ris u vF ones7 → Calls Try.prog 19 #[ag (shl d0 c0 nilS nilS), .int .i64 5, vF] u fun e w' => ∃ g u', e = .returned (.tuple #[grV g u', ag (gdl 2 5 0), .int .i64 6, .int .i64 0]) ∧ g.st = 8 ∧ g.d.m0 = 8 ∧ u'.oneCell' = true ∧ Below u.heap.size u w') := fun u vF hF => by
    refine (meet_any hco d0 c0 [] nilS [] nilS 5 vF ones7 u (shr0 u) hF).mono ?_
    rintro e w' ⟨u', L', rfl, ho, hD, hb⟩
    obtain ⟨h1, h2, h3, h4, h5, h6⟩ := lives_met
    refine ⟨_, u', ?_, h1, h2, ho.one, hb⟩
    rw [h3, h4, h5, h6, lives_beg]
    rfl
  have hM := Mm.nil w
  clear hco
  go_enter Try.func16, Try.ntmps16
  repeat' (first | go_values | go_skip | go_guarded | go_step | go_upon | (simp only [Int.not_lt, Int.not_le] at *; go_simp))
  refine (bare_any _).mono ?_
  rintro e u1 ⟨rfl, hb⟩
  replace hM := hM.call hb
  clear hb
  repeat' (first | (go_big_may; first | (refine v_bsN rfl rfl bs_ones ?hbv ?_; (case hbv => simp [Act.eval, Act.put]); intro u zl hN; replace hM := hM.new hN; clear hN)) | go_values | go_skip | go_guarded | go_step | go_upon | (simp only [Int.not_lt, Int.not_le] at *; go_simp))
  refine (HM.out _ _ (ris_box hM.at0 (by decide))).mono ?_
  rintro e u2 ⟨g, u', rfl, h8, hm, hu, hb⟩
  replace hM := hM.call hb
  have H8 : Hid (g.st = 8) := h8
  have HM0 : Hid (g.d.m0 = 8) := hm
  clear hb h8 hm HM
  repeat' (first | (go_big_may; first | (refine v_alloc rfl zer_greeting rfl ?_; intro u zg hN; replace hM := hM.new hN; clear hN) | (refine v_alloc rfl zer_gadget rfl ?_; intro u zd hN; replace hM := hM.new hN; clear hN) | (refine v_fill rfl rfl row_greeting rfl rfl hM.at1 (grl_vs _ hu) rfl ?_; intro u hv hc; replace hM := hM.put1 hc hv; clear hv hc) | (refine v_fill rfl rfl row_gadget rfl rfl hM.at0 (gdl_vs _ _ _) rfl ?_; intro u hv hc; replace hM := hM.put0 hc hv; clear hv hc) | (refine v_get rfl rfl lod_int rfl hM.at1 (v := .int .i64 8) (j := 0) (by rw [← H8.out]; rfl) ?_) | (refine v_get rfl rfl lod_int rfl hM.at1 (v := .int .i64 8) (j := 9) (by rw [← HM0.out]; rfl) ?_) | (refine v_load rfl rfl row_gadget rfl hM.at0 (Nat.le_refl _) (cut_all rfl) ?_) | (refine v_build rfl rfl (bld_gd2 5) ?hbv ?_; (case hbv => simp [Act.eval, Act.put])) | (refine v_sam rfl rfl (sam_gad 2 5 0) rfl rfl ?_)) | go_values | go_skip | go_guarded | go_step | go_upon | (simp only [Int.not_lt, Int.not_le] at *; go_simp))
  go_ret
  exact ⟨rfl, hM.below⟩
end Go.Proofs.Ytonheibhbilhhaa.greet
