/- arena: what Take answers. -/
import Derived.Test.YtifebinpjpalhaaAreC
import Derived.Test.YtifebinpjpalhaaAreE
import Derived.Test.YtifebinpjpalhaaAreG
namespace Go.Proofs.Ytifebinpjpalhaa.arena
open Go.RowKit
set_option linter.unusedVariables false
set_option linter.unusedSimpArgs false
set_option maxRecDepth 100000

/-- what Take answers -/
def TAns (w : World) (a : Ar) (p code : Int) (e : Ending) (w' : World) : Prop :=
  ∃ v, e = .returned (.tuple #[arV a.z v, .int .i64 p, .int .i64 code]) ∧ Sps w' w.heap.size v a.L ∧ Below w.heap.size w w'
theorem tk_chk {a : Ar} {s g : Int} (h : ¬ chk a = 0) : tkC a s g = chk a := by unfold tkC; rw [if_pos h]
theorem tk_arg {a : Ar} {s g : Int} (h : chk a = 0) (h2 : argB s g = false) : tkC a s g = 1 := by unfold tkC; rw [if_neg (fun q => q h), if_pos h2]
theorem tk_many {a : Ar} {s g : Int} (h : chk a = 0) (h2 : argB s g = true) (h3 : a.L.length = 64) : tkC a s g = 11 := by unfold tkC; rw [if_neg (fun q => q h), if_neg (by simp [h2]), if_pos h3]
theorem tk_none {a : Ar} {s g : Int} (h : chk a = 0) (h2 : argB s g = true) (h3 : ¬ a.L.length = 64) (h4 : (tkF a s g).ok = false) : tkC a s g = 11 := by unfold tkC; rw [if_neg (fun q => q h), if_neg (by simp [h2]), if_neg h3, if_pos h4]
theorem tk_good {a : Ar} {s g : Int} (h : chk a = 0) (h2 : argB s g = true) (h3 : ¬ a.L.length = 64) (h4 : (tkF a s g).ok = true) : tkC a s g = 0 := by unfold tkC; rw [if_neg (fun q => q h), if_neg (by simp [h2]), if_neg h3, if_neg (by simp [h4])]
set_option maxHeartbeats 4000000 in
theorem take_any (z : Int) (v : Value) (L : List Sp) (s g : Int) (w : World) (hv : Rss w v L) (hI : Inr L) :
    Calls Try.prog 15 #[arV z v, .int .i64 s, .int .i64 g] w (TAns w (tkV ⟨z, L⟩ s g) (tkP ⟨z, L⟩ s g) (tkC ⟨z, L⟩ s g)) := by
  obtain ⟨a, c, rfl, hlc, hcm⟩ := hv.form
  obtain ⟨n, hn⟩ : ∃ n, L.length = n := ⟨_, rfl⟩
  have HN : Hid (L.length = n) := hn
  rw [hn] at hv hlc ⊢
  obtain ⟨Z, hZ⟩ : ∃ Z, TAns w (tkV ⟨z, L⟩ s g) (tkP ⟨z, L⟩ s g) (tkC ⟨z, L⟩ s g) = Z := ⟨_, rfl⟩
  have HZ : Hid (TAns w (tkV ⟨z, L⟩ s g) (tkP ⟨z, L⟩ s g) (tkC ⟨z, L⟩ s g) = Z) := hZ
  have HErr : Hid (∀ (k : Int) (u : World), tkC ⟨z, L⟩ s g = k → k ≠ 0 → Below w.heap.size w u → Z (.returned (.tuple #[arV 0 (.slice none 0 0), .int .i64 0, .int .i64 k])) u) := fun k u h1 h2 h3 => by
    obtain ⟨e1, e2⟩ := tk_err (a := ⟨z, L⟩) (s := s) (g := g) (by rw [h1]; exact h2)
    rw [← hZ, e1, e2, h1]
    exact ⟨_, rfl, Sps.nil _ _, h3⟩
  rw [hZ]
  obtain ⟨w1, hw1, hX1, hb1⟩ := named w (arO z (.slice a n c))
  obtain ⟨w2, hw2, hX2, hb2⟩ := named w1 (arO 0 (.slice none 0 0))
  have hX12 := keep hX1 hb2
  obtain ⟨⟨hz, x0, x1⟩, _⟩ := boxC hX12
  have hR2 := hv.below (bsq hb1 hb2)
  obtain ⟨k, hk⟩ : ∃ k, chk ⟨z, L⟩ = k := ⟨_, rfl⟩
  have HK : Hid (chk ⟨z, L⟩ = k) := hk
  have HC : Hid (Calls Try.prog 14 #[arV z (.slice a n c)] w2 fun e w' => e = .returned (.int .i64 k) ∧ Below w2.heap.size w2 w') := by
    have := check_any z (.slice a n c) L w2 hR2 hI
    rw [hk] at this
    exact this
  have z0 : w.heap.size < w1.heap.size := (Array.getElem?_eq_some_iff.1 hX1).1
  have HW : Hid (Rss w2 (.slice a n c) L ∧ Below w.heap.size w w2 ∧ w2.heap[w1.heap.size]? = some (arO 0 (.slice none 0 0)) ∧ w2.heap[w.heap.size]? = some (arO z (.slice a n c)) ∧ w.heap.size < w1.heap.size) := ⟨hR2, bsq hb1 hb2, hX2, hX12, z0⟩
  unfold maxLen at hcm
  clear hv hI hX1 hX2 hX12 hb1 hb2 hR2 hn hZ hk z0
  go_enter Try.func15, Try.ntmps15
  go_wp2_with fail
  refine HC.out.mono ?_
  rintro e u ⟨rfl, hb⟩
  have HU : Hid (Rss u (.slice a n c) L ∧ Below w.heap.size w u ∧ u.heap[w1.heap.size]? = some (arO 0 (.slice none 0 0)) ∧ u.heap[w.heap.size]? = some (arO z (.slice a n c)) ∧ w.heap.size < w1.heap.size) := ⟨HW.out.1.below hb, bsq HW.out.2.1 hb, keep HW.out.2.2.1 hb, keep HW.out.2.2.2.1 hb, HW.out.2.2.2.2⟩
  obtain ⟨uf, huf, hXf, hBf, _, _⟩ := put2 u w1.heap.size (.int .i64 0) (.slice none 0 0) HU.out.2.2.1
  obtain ⟨⟨hzu, r0, r1⟩, f0, f1⟩ := boxC HU.out.2.2.1
  obtain ⟨⟨hzx, d0, d1⟩, _⟩ := boxC HU.out.2.2.2.1
  obtain ⟨⟨hzf, y0, y1⟩, _⟩ := boxC hXf
  have HBf : Hid (Below w.heap.size w uf) := hBf _ _ (by have := HU.out.2.2.2.2; omega) HU.out.2.1
  clear hb hXf hBf HW HC x0 x1 hz
  by_cases h0 : ¬ k = 0
  · have e1 : (k != 0) = true := by simpa using h0
    have HA : Hid (Z (.returned (.tuple #[arV 0 (.slice none 0 0), .int .i64 0, .int .i64 k])) uf) := HErr.out k uf (by rw [tk_chk (by rw [HK.out]; exact h0), HK.out]) h0 HBf.out
    clear h0
    go_wp2
    try rw [huf]
    exact bodyPost_ret (v := .tuple #[arV 0 (.slice none 0 0), .int .i64 0, .int .i64 k]) (by simp [results, Try.results15, go_sem, hzf, y0, y1]) rfl HA.out
  have h0 : k = 0 := Classical.not_not.1 h0
  subst h0
  have e0 : ((0 : Int) != 0) = false := rfl
  have HI : Hid (∀ u, Calls Try.prog 25 #[.int .i64 g] u fun e w' => e = .returned (.bool (alB g)) ∧ u = w') := fun u => isAlign_any g u
  by_cases hs1 : s < 1
  · have HA : Hid (Z (.returned (.tuple #[arV 0 (.slice none 0 0), .int .i64 0, .int .i64 1])) uf) := HErr.out 1 uf (tk_arg HK.out (by simp [argB]; omega)) (by decide) HBf.out
    have e1 : decide (s < 1) = true := decide_eq_true hs1
    clear hs1
    go_wp2
    try rw [huf]
    exact bodyPost_ret (v := .tuple #[arV 0 (.slice none 0 0), .int .i64 0, .int .i64 1]) (by simp [results, Try.results15, go_sem, hzf, y0, y1]) rfl HA.out
  have e1 : decide (s < 1) = false := decide_eq_false hs1
  by_cases hs2 : s > 4096
  · have HA : Hid (Z (.returned (.tuple #[arV 0 (.slice none 0 0), .int .i64 0, .int .i64 1])) uf) := HErr.out 1 uf (tk_arg HK.out (by simp [argB]; omega)) (by decide) HBf.out
    have e2 : decide (s > 4096) = true := decide_eq_true hs2
    clear hs1 hs2
    go_wp2
    try rw [huf]
    exact bodyPost_ret (v := .tuple #[arV 0 (.slice none 0 0), .int .i64 0, .int .i64 1]) (by simp [results, Try.results15, go_sem, hzf, y0, y1]) rfl HA.out
  have e2 : decide (s > 4096) = false := decide_eq_false hs2
  have hS1 : 1 ≤ s := by omega
  have hS2 : s ≤ 4096 := by omega
  clear hs1 hs2
  by_cases hal : alB g = false
  · have HA : Hid (Z (.returned (.tuple #[arV 0 (.slice none 0 0), .int .i64 0, .int .i64 1])) uf) := HErr.out 1 uf (tk_arg HK.out (by simp [argB, hal])) (by decide) HBf.out
    rw [hal] at HI
    clear hal
    go_wp2_with fail
    refine (HI.out _).mono ?_
    rintro e u' ⟨rfl, rfl⟩
    go_wp2
    try rw [huf]
    exact bodyPost_ret (v := .tuple #[arV 0 (.slice none 0 0), .int .i64 0, .int .i64 1]) (by simp [results, Try.results15, go_sem, hzf, y0, y1]) rfl HA.out
  have hal : alB g = true := by simpa using hal
  rw [hal] at HI
  have HARG : Hid (argB s g = true) := by show _ = _; simp [argB, hal, hS1, hS2]
  clear hal
  by_cases hn64 : n = 64
  · have HA : Hid (Z (.returned (.tuple #[arV 0 (.slice none 0 0), .int .i64 0, .int .i64 11])) uf) := HErr.out 11 uf (tk_many HK.out HARG.out (by rw [← hn64]; exact HN.out)) (by decide) HBf.out
    have e3 : ((n : Int) == 64) = true := by rw [beq_iff_eq]; omega
    clear hn64
    go_wp2_with fail
    refine (HI.out _).mono ?_
    rintro e u' ⟨rfl, rfl⟩
    go_wp2
    try rw [huf]
    exact bodyPost_ret (v := .tuple #[arV 0 (.slice none 0 0), .int .i64 0, .int .i64 11]) (by simp [results, Try.results15, go_sem, hzf, y0, y1]) rfl HA.out
  have e3 : ((n : Int) == 64) = false := by rw [beq_eq_false_iff_ne]; omega
  have HL : Hid (¬ L.length = 64) := by show ¬ _; rw [HN.out]; exact hn64
  have HF : Hid (Calls Try.prog 26 #[arV z (.slice a n c), .int .i64 s, .int .i64 g] u fun e w' => e = .returned (.tuple #[.int .i64 ((tkF ⟨z, L⟩ s g).i : Int), .int .i64 (tkF ⟨z, L⟩ s g).p, .bool (tkF ⟨z, L⟩ s g).ok]) ∧ Below u.heap.size u w') :=
    find_any z s g (.slice a n c) L u HU.out.1 HK.out HARG.out
  obtain ⟨fi, hfi⟩ : ∃ i, (tkF ⟨z, L⟩ s g).i = i := ⟨_, rfl⟩
  obtain ⟨fp, hfp⟩ : ∃ i, (tkF ⟨z, L⟩ s g).p = i := ⟨_, rfl⟩
  have HFI : Hid ((tkF ⟨z, L⟩ s g).i = fi ∧ (tkF ⟨z, L⟩ s g).p = fp) := ⟨hfi, hfp⟩
  rw [hfi, hfp] at HF
  clear hfi hfp hn64 huf y0 y1 hzf HBf
  go_wp2_with fail
  refine (HI.out _).mono ?_
  rintro e u' ⟨rfl, rfl⟩
  go_wp2_with fail
  by_cases hok : (tkF ⟨z, L⟩ s g).ok = false
  · rw [hok] at HF
    refine HF.out.mono ?_
    rintro e u2 ⟨rfl, hb2⟩
    have hR := keep HU.out.2.2.1 hb2
    obtain ⟨uf, huf, hXf, hBf, _, _⟩ := put2 u2 w1.heap.size (.int .i64 0) (.slice none 0 0) hR
    obtain ⟨⟨hzu', r0', r1'⟩, f0', f1'⟩ := boxC hR
    obtain ⟨⟨hzf, y0, y1⟩, _⟩ := boxC hXf
    have HA : Hid (Z (.returned (.tuple #[arV 0 (.slice none 0 0), .int .i64 0, .int .i64 11])) uf) := HErr.out 11 uf (tk_none HK.out HARG.out HL.out hok) (by decide) (hBf _ _ (by have := HU.out.2.2.2.2; omega) (bsq HU.out.2.1 hb2))
    clear hok hR hb2 hXf hBf HF
    go_wp2
    try rw [huf]
    exact bodyPost_ret (v := .tuple #[arV 0 (.slice none 0 0), .int .i64 0, .int .i64 11]) (by simp [results, Try.results15, go_sem, hzf, y0, y1]) rfl HA.out
  have hok : (tkF ⟨z, L⟩ s g).ok = true := by simpa using hok
  have HOK : Hid (tkC ⟨z, L⟩ s g = 0) := tk_good HK.out HARG.out HL.out hok
  rw [hok] at HF
  refine HF.out.mono ?_
  rintro e u2 ⟨rfl, hb2⟩
  have hR2 := keep HU.out.2.2.1 hb2
  have hX2 := keep HU.out.2.2.2.1 hb2
  obtain ⟨⟨_, m0, m1⟩, _⟩ := boxC hX2
  have HWI : Hid (Calls Try.prog 27 #[arV z (.slice a n c), .int .i64 (fi : Int), spV fp s] u2 fun e w' => ∃ v', e = .returned (arV z v') ∧ Sps w' u2.heap.size v' (ins L fi (fp, s)) ∧ Below u2.heap.size u2 w') := by
    obtain ⟨A, B, q1, q2, _⟩ := tk_facts HOK.out
    have hlen := congrArg List.length q1
    simp only [List.length_append] at hlen
    rw [HFI.out.1] at q2
    exact with_any z (.slice a n c) L fi fp s u2 (HU.out.1.below hb2) (chk_ok HK.out).2.2.1 (by omega)
  have HU2 : Hid (Below w.heap.size w u2 ∧ u2.heap[w1.heap.size]? = some (arO 0 (.slice none 0 0))) := ⟨bsq HU.out.2.1 hb2, hR2⟩
  clear hok hb2 hR2 hX2 HF HErr
  go_wp2_with fail
  refine HWI.out.mono ?_
  rintro e u3 ⟨v3, rfl, hv3, hb3⟩
  have hR3 := keep HU2.out.2 hb3
  obtain ⟨uf, huf, hXf, hBf, _, _⟩ := put2 u3 w1.heap.size (.int .i64 z) v3 hR3
  have hne : v3.ownBlock ≠ some w1.heap.size := box_ne hv3 hR3 (by decide)
  have HA : Hid (Z (.returned (.tuple #[arV z v3, .int .i64 fp, .int .i64 0])) uf) := by
    show Z _ _
    obtain ⟨_, _, _, _, q5, q6⟩ := tk_parts HOK.out
    rw [← HZ.out, q5, q6, HOK.out, HFI.out.1, HFI.out.2]
    refine ⟨v3, rfl, ?_, hBf _ _ (by have := HU.out.2.2.2.2; omega) (bsq HU2.out.1 hb3)⟩
    rw [← huf]
    exact Sps.mono (ownsRow_setCell_other (ownsRow_setCell_other hv3 hne _) hne _) HU2.out.1.size
  obtain ⟨va, vn, vc, rfl⟩ : ∃ a n c, v3 = .slice a n c := by obtain ⟨a, c, h, _⟩ := hv3.form; exact ⟨_, _, _, h⟩
  obtain ⟨⟨hzu', r0', r1'⟩, f0', f1'⟩ := boxC hR3
  obtain ⟨⟨hzf, y0, y1⟩, _⟩ := boxC hXf
  clear hv3 hb3 hR3 hXf hBf hne HWI
  go_wp2
  try rw [huf]
  exact bodyPost_ret (v := .tuple #[arV z (.slice va vn vc), .int .i64 fp, .int .i64 0]) (by simp [results, Try.results15, go_sem, hzf, y0, y1]) rfl HA.out
end Go.Proofs.Ytifebinpjpalhaa.arena
