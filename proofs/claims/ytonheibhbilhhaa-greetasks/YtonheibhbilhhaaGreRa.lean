/- plugref: what is asked of a greeting. -/
import Derived.Test.YtonheibhbilhhaaGreR
import Derived.Test.YtonheibhbilhhaaSetS
namespace Go.Proofs.Ytonheibhbilhhaa.greet
open Go Go.RowKit Go.PlainAid Go.Proofs.Ytonheibhbilhhaa.lane Go.Proofs.Ytonheibhbilhhaa.desc
open Go.Proofs.Ytonheibhbilhhaa.setup (inS inS_iff wrT wrC good txt)
set_option linter.unusedVariables false
set_option linter.unusedSimpArgs false
set_option maxRecDepth 100000

def asks (g : Gr) : List Value := akl 0 0 0 0 ++ (akl 5 256 0 8 ++ (akl 4 g.ad 0 0 ++ (akl 5 256 0 18 ++ (akl 5 512 0 9 ++ (akl 5 512 0 g.tot ++ (akl 5 (768 + g.d.se) 0 255 ++ akl 6 g.c.va 0 0))))))
theorem bs_asks (a t s v : Int) (w : World) : (Instr.buildSlice 63 8 #[(0, ag (akl 0 0 0 0)), (1, ag (akl 5 256 0 8)), (2, ag (akl 4 a 0 0)), (3, ag (akl 5 256 0 18)), (4, ag (akl 5 512 0 9)), (5, ag (akl 5 512 0 t)), (6, ag (akl 5 s 0 255)), (7, ag (akl 6 v 0 0))]).run Try.prog w = .ok (.slice (some ⟨w.heap.size, 0, none⟩) 8 8) (w.alloc (bx 61 (akl 0 0 0 0 ++ (akl 5 256 0 8 ++ (akl 4 a 0 0 ++ (akl 5 256 0 18 ++ (akl 5 512 0 9 ++ (akl 5 512 0 t ++ (akl 5 s 0 255 ++ akl 6 v 0 0))))))))) := by kernel_rfl
theorem bld_ask0 (w : World) : (Instr.build 61 #[]).run Try.prog w = .ok (ag (akl 0 0 0 0)) w := by kernel_rfl
theorem asks_at {g : Gr} (h : okG g = true) (h8 : ¬ 8 ≤ g.st) : cut (akl 0 0 0 0 ++ (akl 5 256 0 8 ++ (akl 4 g.ad 0 0 ++ (akl 5 256 0 18 ++ (akl 5 512 0 9 ++ (akl 5 512 0 g.tot ++ (akl 5 (768 + g.d.se) 0 255 ++ akl 6 g.c.va 0 0))))))) (g.st.toNat * 4) 4 = akl (askK g) (askV g) 0 (askL g) := by
  have h7 := st_seven h h8
  clear h h8
  obtain ⟨st, tr, ad, m0, tot, d, c, sr, er⟩ := g
  simp only at h7 ⊢
  rcases h7 with h7 | h7 | h7 | h7 | h7 | h7 | h7 <;> (subst h7; rfl)
set_option maxHeartbeats 8000000 in
theorem rAskAt_any (g : Gr) (u : Value) (w : World) (h : okG g = true) : Calls Try.prog 12 #[grV g u] w fun e w' => e = .returned (.tuple #[.string (nxT g), .bool (decide (g.st < 8))]) ∧ Below w.heap.size w w' := by
  have hse := ((okG_iff g).1 h).2.2.2.2.1
  have hwr : IntKind.i64.wrap (768 + g.d.se) = 768 + g.d.se := by rw [IntKind.wrap_i64]; omega
  have hst := ((okG_iff g).1 h).1
  have hM := Mm.nil w
  by_cases h8 : 8 ≤ g.st
  · have hn : nxT g = ⟨#[]⟩ := by unfold nxT; rw [if_neg (by rw [h]; decide), if_pos h8]
    rw [hn, show decide (g.st < 8) = false by simp; omega]
    clear h hse hst hn
    go_enter Try.func12, Try.ntmps12
    repeat' (first | (go_big_may; first | (refine v_box rfl rfl rfl ?_; intro u zg hN; replace hM := hM.new hN; clear hN) | (refine v_build rfl rfl bld_ask0 ?hbv ?_; (case hbv => simp [Act.eval, Act.put])) | (refine v_build rfl rfl (bld_ask2 4 g.ad) ?hbv ?_; (case hbv => simp [Act.eval, Act.put])) | (refine v_build rfl rfl (bld_ask2 6 g.c.va) ?hbv ?_; (case hbv => simp [Act.eval, Act.put])) | (refine v_build rfl rfl (bld_ask3 5 256 8) ?hbv ?_; (case hbv => simp [Act.eval, Act.put])) | (refine v_build rfl rfl (bld_ask3 5 256 18) ?hbv ?_; (case hbv => simp [Act.eval, Act.put])) | (refine v_build rfl rfl (bld_ask3 5 512 9) ?hbv ?_; (case hbv => simp [Act.eval, Act.put])) | (refine v_build rfl rfl (bld_ask3 5 512 g.tot) ?hbv ?_; (case hbv => simp [Act.eval, Act.put])) | (refine v_build rfl rfl (bld_ask3 5 (768 + g.d.se) 255) ?hbv ?_; (case hbv => simp [Act.eval, Act.put])) | (refine v_bsN rfl rfl (bs_asks g.ad g.tot (768 + g.d.se) g.c.va) ?hbv ?_; (case hbv => simp [Act.eval, Act.put]); intro u zl hN; replace hM := hM.new hN; clear hN) | (refine v_get rfl rfl lod_int rfl hM.at0 rfl ?_) | (refine v_get rfl rfl lod_int rfl hM.at1 (j := 2) rfl ?_) | (refine v_get rfl rfl lod_int rfl hM.at1 (j := 0) rfl ?_)) | go_values | go_skip | go_guarded | go_step | go_upon | (simp only [Int.not_lt, Int.not_le] at *; go_simp))
    go_ret2
    exact ⟨rfl, hM.below⟩
  · have hn : nxT g = wrT (askK g) (askV g) 0 (askL g) := by unfold nxT; rw [if_neg (by rw [h]; decide), if_neg h8]
    rw [hn, show decide (g.st < 8) = true by simp; omega]
    have HAT : Hid (∀ w, Calls Try.prog 26 #[ag (akl (askK g) (askV g) 0 (askL g))] w fun e w' => e = .returned (.tuple #[.string (wrT (askK g) (askV g) 0 (askL g)), .int .i64 (wrC (askK g) (askV g) 0 (askL g))]) ∧ Below w.heap.size w w') := fun w => setup.askText_any (askK g) (askV g) 0 (askL g) w
    have HA : Hid (cut (akl 0 0 0 0 ++ (akl 5 256 0 8 ++ (akl 4 g.ad 0 0 ++ (akl 5 256 0 18 ++ (akl 5 512 0 9 ++ (akl 5 512 0 g.tot ++ (akl 5 (768 + g.d.se) 0 255 ++ akl 6 g.c.va 0 0))))))) (g.st.toNat * 4) 4 = akl (askK g) (askV g) 0 (askL g)) := asks_at h h8
    have HL : Hid (g.st.toNat * 4 + 4 ≤ (akl 0 0 0 0 ++ (akl 5 256 0 8 ++ (akl 4 g.ad 0 0 ++ (akl 5 256 0 18 ++ (akl 5 512 0 9 ++ (akl 5 512 0 g.tot ++ (akl 5 (768 + g.d.se) 0 255 ++ akl 6 g.c.va 0 0))))))).length) := by show _ ≤ 32; omega
    have h0 : 0 ≤ g.st := by omega
    have h9 : g.st < 8 := by omega
    clear h hse hst hn
    go_enter Try.func12, Try.ntmps12
    repeat' (first | (go_big_may; first | (refine v_box rfl rfl rfl ?_; intro u zg hN; replace hM := hM.new hN; clear hN) | (refine v_build rfl rfl bld_ask0 ?hbv ?_; (case hbv => simp [Act.eval, Act.put])) | (refine v_build rfl rfl (bld_ask2 4 g.ad) ?hbv ?_; (case hbv => simp [Act.eval, Act.put])) | (refine v_build rfl rfl (bld_ask2 6 g.c.va) ?hbv ?_; (case hbv => simp [Act.eval, Act.put])) | (refine v_build rfl rfl (bld_ask3 5 256 8) ?hbv ?_; (case hbv => simp [Act.eval, Act.put])) | (refine v_build rfl rfl (bld_ask3 5 256 18) ?hbv ?_; (case hbv => simp [Act.eval, Act.put])) | (refine v_build rfl rfl (bld_ask3 5 512 9) ?hbv ?_; (case hbv => simp [Act.eval, Act.put])) | (refine v_build rfl rfl (bld_ask3 5 512 g.tot) ?hbv ?_; (case hbv => simp [Act.eval, Act.put])) | (refine v_build rfl rfl (bld_ask3 5 (768 + g.d.se) 255) ?hbv ?_; (case hbv => simp [Act.eval, Act.put])) | (refine v_bsN rfl rfl (bs_asks g.ad g.tot (768 + g.d.se) g.c.va) ?hbv ?_; (case hbv => simp [Act.eval, Act.put]); intro u zl hN; replace hM := hM.new hN; clear hN) | (refine v_get rfl rfl lod_int rfl hM.at0 rfl ?_) | (refine v_get rfl rfl lod_int rfl hM.at1 (j := 2) rfl ?_) | (refine v_get rfl rfl lod_int rfl hM.at1 (j := 0) rfl ?_) | (refine v_load rfl rfl row_ask rfl hM.at0 HL.out HA.out ?_)) | go_values | go_skip | go_guarded | go_step | go_upon | (simp only [Int.not_lt, Int.not_le] at *; go_simp))
    refine (HAT.out _).mono ?_
    rintro e u1 ⟨rfl, hb⟩
    replace hM := hM.call hb
    clear hb
    repeat' (first | go_values | go_skip | go_guarded | go_step | go_upon | (simp only [Int.not_lt, Int.not_le] at *; go_simp))
    go_ret2
    exact ⟨rfl, hM.below⟩
end Go.Proofs.Ytonheibhbilhhaa.greet
