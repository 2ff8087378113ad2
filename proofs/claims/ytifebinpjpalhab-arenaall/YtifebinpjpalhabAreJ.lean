/- arena: what Give answers. -/
import Derived.Test.YtifebinpjpalhabAreC
import Derived.Test.YtifebinpjpalhabAreI
namespace Go.Proofs.Ytifebinpjpalhab.arena
open Go Go.RowKit
set_option linter.unusedVariables false
set_option linter.unusedSimpArgs false
set_option maxRecDepth 100000

theorem begins_any (x : Sp) (X : Nat) (p : Int) (u : World) (hX : u.cell? ⟨X, 0, none⟩ = some (.int .i64 p)) (hlt : X < u.heap.size) :
    Calls Try.prog 18 #[spV x.1 x.2, .pointer (some ⟨X, 0, none⟩)] u fun e w' => e = .returned (.bool (x.1 == p)) ∧ Below u.heap.size u w' := by
  obtain ⟨q, s⟩ := x
  simp only
  have hne : X ≠ u.heap.size := by omega
  obtain ⟨b, hb⟩ : ∃ b, (q == p) = b := ⟨_, rfl⟩
  rw [hb]
  go_enter Try.func18, Try.ntmps18
  go_wp2
  go_ret
  exact ⟨rfl, balloc _ _⟩
/-- what Give answers -/
def GAns (w : World) (a : Ar) (code : Int) (e : Ending) (w' : World) : Prop :=
  ∃ v, e = .returned (.tuple #[arV a.z v, .int .i64 code]) ∧ Sps w' w.heap.size v a.L ∧ Below w.heap.size w w'
theorem gv_chk {a : Ar} {p : Int} (h : ¬ chk a = 0) : gvC a p = chk a := by unfold gvC; rw [if_pos h]
theorem gv_none {a : Ar} {p : Int} (h : chk a = 0) (h2 : ¬ idx a.L p < a.L.length) : gvC a p = 12 := by unfold gvC; rw [if_neg (fun q => q h), if_pos (by omega)]
theorem gv_good {a : Ar} {p : Int} (h : chk a = 0) (h2 : idx a.L p < a.L.length) : gvC a p = 0 := by unfold gvC; rw [if_neg (fun q => q h), if_neg (by omega)]
set_option maxHeartbeats 4000000 in
theorem give_any (z : Int) (v : Value) (L : List Sp) (p : Int) (w : World) (hv : Rss w v L) (hI : Inr L) :
    Calls Try.prog 9 #[arV z v, .int .i64 p] w (GAns w (gvV ⟨z, L⟩ p) (gvC ⟨z, L⟩ p)) := by
  obtain ⟨a, c, rfl, hlc, hcm⟩ := hv.form
  obtain ⟨n, hn⟩ : ∃ n, L.length = n := ⟨_, rfl⟩
  have HN : Hid (L.length = n) := hn
  rw [hn] at hv hlc ⊢
  obtain ⟨Z, hZ⟩ : ∃ Z, GAns w (gvV ⟨z, L⟩ p) (gvC ⟨z, L⟩ p) = Z := ⟨_, rfl⟩
  have HZ : Hid (GAns w (gvV ⟨z, L⟩ p) (gvC ⟨z, L⟩ p) = Z) := hZ
  have HErr : Hid (∀ (k : Int) (u : World), gvC ⟨z, L⟩ p = k → k ≠ 0 → Below w.heap.size w u → Z (.returned (.tuple #[arV 0 (.slice none 0 0), .int .i64 k])) u) := fun k u h1 h2 h3 => by
    have e1 := gv_err (a := ⟨z, L⟩) (p := p) (by rw [h1]; exact h2)
    rw [← hZ, e1, h1]
    exact ⟨_, rfl, Sps.nil _ _, h3⟩
  rw [hZ]
  obtain ⟨w1, hw1, hX1, hb1⟩ := named w (arO z (.slice a n c))
  obtain ⟨w2, hw2, hX2, hb2⟩ := named w1 (.cells #[.int .i64 p] 3)
  obtain ⟨w3, hw3, hX3, hb3⟩ := named w2 (arO 0 (.slice none 0 0))
  have hX13 := keep (keep hX1 hb2) hb3
  have hX23 := keep hX2 hb3
  obtain ⟨⟨hz, x0, x1⟩, _⟩ := boxC hX13
  have hR3 := hv.below (bsq hb1 (bsq hb2 hb3))
  obtain ⟨k, hk⟩ : ∃ k, chk ⟨z, L⟩ = k := ⟨_, rfl⟩
  have HK : Hid (chk ⟨z, L⟩ = k) := hk
  have HC : Hid (Calls Try.prog 12 #[arV z (.slice a n c)] w3 fun e w' => e = .returned (.int .i64 k) ∧ Below w3.heap.size w3 w') := by
    have := check_any z (.slice a n c) L w3 hR3 hI
    rw [hk] at this
    exact this
  have z0 : w.heap.size < w1.heap.size := (Array.getElem?_eq_some_iff.1 hX1).1
  have z1 : w1.heap.size < w2.heap.size := (Array.getElem?_eq_some_iff.1 hX2).1
  have HW : Hid (Rss w3 (.slice a n c) L ∧ Below w.heap.size w w3 ∧ w3.heap[w2.heap.size]? = some (arO 0 (.slice none 0 0)) ∧ w3.heap[w.heap.size]? = some (arO z (.slice a n c)) ∧ w.heap.size < w2.heap.size) := ⟨hR3, bsq hb1 (bsq hb2 hb3), hX3, hX13, by omega⟩
  have HP : Hid (w3.heap[w1.heap.size]? = some (.cells #[.int .i64 p] 3)) := hX23
  unfold maxLen at hcm
  clear hv hI hX1 hX2 hX3 hX13 hX23 hb1 hb2 hb3 hR3 hn hZ hk z0 z1
  go_enter Try.func9, Try.ntmps9
  go_wp2_with fail
  refine HC.out.mono ?_
  rintro e u ⟨rfl, hb⟩
  have HU : Hid (Rss u (.slice a n c) L ∧ Below w.heap.size w u ∧ u.heap[w2.heap.size]? = some (arO 0 (.slice none 0 0)) ∧ u.heap[w.heap.size]? = some (arO z (.slice a n c)) ∧ w.heap.size < w2.heap.size) := ⟨HW.out.1.below hb, bsq HW.out.2.1 hb, keep HW.out.2.2.1 hb, keep HW.out.2.2.2.1 hb, HW.out.2.2.2.2⟩
  have HPu : Hid (u.heap[w1.heap.size]? = some (.cells #[.int .i64 p] 3)) := keep HP.out hb
  obtain ⟨uf, huf, hXf, hBf, _, _⟩ := put2 u w2.heap.size (.int .i64 0) (.slice none 0 0) HU.out.2.2.1
  obtain ⟨⟨hzu, r0, r1⟩, f0, f1⟩ := boxC HU.out.2.2.1
  obtain ⟨⟨hzx, d0, d1⟩, _⟩ := boxC HU.out.2.2.2.1
  obtain ⟨⟨hzf, y0, y1⟩, _⟩ := boxC hXf
  have HBf : Hid (Below w.heap.size w uf) := hBf _ _ (by have := HU.out.2.2.2.2; omega) HU.out.2.1
  clear hb hXf hBf HW HC HP x0 x1 hz
  by_cases h0 : ¬ k = 0
  · have e1 : (k != 0) = true := by simpa using h0
    have HA : Hid (Z (.returned (.tuple #[arV 0 (.slice none 0 0), .int .i64 k])) uf) := HErr.out k uf (by rw [gv_chk (by rw [HK.out]; exact h0), HK.out]) h0 HBf.out
    clear h0
    go_wp2
    try rw [huf]
    exact bodyPost_ret (v := .tuple #[arV 0 (.slice none 0 0), .int .i64 k]) (by simp [results, Try.results9, go_sem, hzf, y0, y1]) rfl HA.out
  have h0 : k = 0 := Classical.not_not.1 h0
  subst h0
  have e0 : ((0 : Int) != 0) = false := rfl
  have HL : Hid (L.length ≤ 64) := (chk_ok HK.out).2.2.1
  have HF : Hid (Calls Try.prog 10 #[.slice a n c, .func (.func 18) #[] #[.pointer (some ⟨w1.heap.size, 0, none⟩)]] u fun e w' => e = .returned (.int .i64 (ixV L p)) ∧ Below u.heap.size u w') :=
    indexFunc_any 18 w1.heap.size p (.slice a n c) L u HU.out.1 HL.out (enters_of Try.func18 (by kernel_rfl) rfl) fun x u' hu' => by
      have h1 := keep HPu.out hu'
      exact begins_any x w1.heap.size p u' (by rw [cell_of_row _ _ _ _ _ (0, 0) h1]; rfl) (Array.getElem?_eq_some_iff.1 h1).1
  obtain ⟨q, hq⟩ : ∃ q, ixV L p = q := ⟨_, rfl⟩
  have HQ : Hid ((if idx L p < n then (idx L p : Int) else -1) = q) := by show _ = _; rw [← hq, ← HN.out]; rfl
  rw [hq] at HF
  clear hq huf y0 y1 hzf HBf
  go_wp2_with fail
  refine HF.out.mono ?_
  rintro e u2 ⟨rfl, hb2⟩
  have HU2 : Hid (Rss u2 (.slice a n c) L ∧ Below w.heap.size w u2 ∧ u2.heap[w2.heap.size]? = some (arO 0 (.slice none 0 0)) ∧ u2.heap[w.heap.size]? = some (arO z (.slice a n c)) ∧ w.heap.size < w2.heap.size) := ⟨HU.out.1.below hb2, bsq HU.out.2.1 hb2, keep HU.out.2.2.1 hb2, keep HU.out.2.2.2.1 hb2, HU.out.2.2.2.2⟩
  clear hb2 HF HU HPu d0 d1 r0 r1 f0 f1 hzu hzx
  by_cases hi : ¬ idx L p < n
  · have hq1 : q = -1 := by have := HQ.out; rw [if_neg hi] at this; omega
    subst hq1
    obtain ⟨uf, huf, hXf, hBf, _, _⟩ := put2 u2 w2.heap.size (.int .i64 0) (.slice none 0 0) HU2.out.2.2.1
    obtain ⟨⟨hzu', r0', r1'⟩, f0', f1'⟩ := boxC HU2.out.2.2.1
    obtain ⟨⟨hzf, y0, y1⟩, _⟩ := boxC hXf
    have HA : Hid (Z (.returned (.tuple #[arV 0 (.slice none 0 0), .int .i64 12])) uf) := HErr.out 12 uf (gv_none HK.out (by rw [HN.out]; exact hi)) (by decide) (hBf _ _ (by have := HU2.out.2.2.2.2; omega) HU2.out.2.1)
    clear hi hXf hBf HQ
    go_wp2
    try rw [huf]
    exact bodyPost_ret (v := .tuple #[arV 0 (.slice none 0 0), .int .i64 12]) (by simp [results, Try.results9, go_sem, hzf, y0, y1]) rfl HA.out
  have hi : idx L p < n := Classical.not_not.1 hi
  have hq1 : q = (idx L p : Int) := by have := HQ.out; rw [if_pos hi] at this; omega
  have HOK : Hid (gvC ⟨z, L⟩ p = 0) := gv_good HK.out (by rw [HN.out]; exact hi)
  obtain ⟨i, hii⟩ : ∃ i, idx L p = i := ⟨_, rfl⟩
  have HIX : Hid (idx (Ar.L ⟨z, L⟩) p = i) := hii
  rw [hii] at hi hq1
  subst hq1
  obtain ⟨j, hj⟩ : ∃ j, i + 1 = j := ⟨_, rfl⟩
  have HJ : Hid (i + 1 = j) := hj
  obtain ⟨hU, hRu⟩ := HU2.out.1.upto i (by omega)
  obtain ⟨a1, hF, hRf⟩ := HU2.out.1.from j (by omega)
  have HSU : Hid _ := sliceAt_of hU
  have HSF : Hid _ := sliceAt_of hF
  have HSL : Hid (Rss u2 (.slice a i c) (L.take i) ∧ Rss u2 (.slice a1 (n - j) (c - j)) (L.drop j)) := ⟨hRu, hRf⟩
  have e1 : decide ((i : Int) < 0) = false := by rw [decide_eq_false_iff_not]; omega
  have hwr : IntKind.i64.wrap ((i : Int) + 1) = (j : Int) := by rw [IntKind.wrap_i64]; have := HN.out; have := HL.out; omega
  clear hU hRu hF hRf hii HQ HErr hj
  go_upto_region 7 with (fail)
  refine wp_abs (fun a0 => a0.tmps.size = 35 ∧ (∀ h, a0.tmps[2]'h = .pointer (some ⟨w.heap.size, 0, none⟩)) ∧ (∀ h, a0.tmps[4]'h = .pointer (some ⟨w2.heap.size, 0, none⟩)) ∧ (∀ h, a0.tmps[7]'h = .int .i64 (i : Int))) ⟨rfl, fun _ => rfl, fun _ => rfl, fun _ => rfl⟩ ?_
  rintro a0 ⟨hsz, s2, s4, s7⟩ ha0
  refine wp_region_held (S := fun W => W.heap[w.heap.size]? = some (arO z (.slice a n c))) (by kernel_rfl) ?_
  have hS0 : u2.drew.heap[w.heap.size]? = some (arO z (.slice a n c)) := HU2.out.2.2.2.1
  refine h_take (i := 0) (.pointer (some ⟨w.heap.size, 0, none⟩)) rfl (by kernel_rfl) (by kernel_rfl) (by kernel_rfl) (fun _ _ _ h => h) rfl hS0 (fun W hW => by simp [execOp, go_sem, Act.put, hsz, s2, s4, s7]) ?_
  refine h_take (i := 1) (.int .i64 z) rfl (by kernel_rfl) (by kernel_rfl) (by kernel_rfl) (fun _ _ _ h => h) rfl hS0 (fun W hW => by obtain ⟨⟨zb, x0, x1⟩, _⟩ := boxC hW; simp [execOp, go_sem, Act.put, hsz, s2, s4, s7, x0, x1]) ?_
  refine h_take (i := 2) (.pointer (some ⟨w.heap.size, 1, none⟩)) rfl (by kernel_rfl) (by kernel_rfl) (by kernel_rfl) (fun _ _ _ h => h) rfl hS0 (fun W hW => by simp [execOp, go_sem, Act.put, hsz, s2, s4, s7]) ?_
  refine h_take (i := 3) (.slice a n c) rfl (by kernel_rfl) (by kernel_rfl) (by kernel_rfl) (fun _ _ _ h => h) rfl hS0 (fun W hW => by obtain ⟨⟨zb, x0, x1⟩, _⟩ := boxC hW; simp [execOp, go_sem, Act.put, hsz, s2, s4, s7, x0, x1]) ?_
  refine h_take (i := 4) (.int .i64 (i : Int)) rfl (by kernel_rfl) (by kernel_rfl) (by kernel_rfl) (fun _ _ _ h => h) rfl hS0 (fun W hW => by simp [execOp, go_sem, Act.put, hsz, s2, s4, s7]) ?_
  refine h_take (i := 5) (.slice a i c) rfl (by kernel_rfl) (by kernel_rfl) (by kernel_rfl) (fun _ _ _ h => h) rfl hS0 (fun W hW => by simp [execOp, go_sem, Act.put, hsz, s2, s4, s7, HSU.out]) ?_
  refine h_take (i := 6) (.pointer (some ⟨w.heap.size, 1, none⟩)) rfl (by kernel_rfl) (by kernel_rfl) (by kernel_rfl) (fun _ _ _ h => h) rfl hS0 (fun W hW => by simp [execOp, go_sem, Act.put, hsz, s2, s4, s7]) ?_
  refine h_take (i := 7) (.slice a n c) rfl (by kernel_rfl) (by kernel_rfl) (by kernel_rfl) (fun _ _ _ h => h) rfl hS0 (fun W hW => by obtain ⟨⟨zb, x0, x1⟩, _⟩ := boxC hW; simp [execOp, go_sem, Act.put, hsz, s2, s4, s7, x0, x1]) ?_
  refine h_take (i := 8) (.int .i64 (i : Int)) rfl (by kernel_rfl) (by kernel_rfl) (by kernel_rfl) (fun _ _ _ h => h) rfl hS0 (fun W hW => by simp [execOp, go_sem, Act.put, hsz, s2, s4, s7]) ?_
  refine h_take (i := 9) (.int .i64 (j : Int)) rfl (by kernel_rfl) (by kernel_rfl) (by kernel_rfl) (fun _ _ _ h => h) rfl hS0 (fun W hW => by simp [execOp, go_sem, Act.put, hsz, s2, s4, s7, hwr]) ?_
  refine h_take (i := 10) (.slice a1 (n - j) (c - j)) rfl (by kernel_rfl) (by kernel_rfl) (by kernel_rfl) (fun _ _ _ h => h) rfl hS0 (fun W hW => by simp [execOp, go_sem, Act.put, hsz, s2, s4, s7, HSF.out]) ?_
  obtain ⟨w5, hw5⟩ : ∃ w5, u2.drew.alloc (.cells #[.slice a i c, .slice a1 (n - j) (c - j)] 22) = w5 := ⟨_, rfl⟩
  have hb5 : Below u2.heap.size u2 w5 := by rw [← hw5]; exact (Below.refl _ _).drew.alloc (Nat.le_refl _) _
  have hC5 : Css w5 u2.heap.size 2 [L.take i, L.drop j] := by rw [← hw5]; exact css2 (w := u2.drew) (HSL.out.1.below (Below.refl _ _).drew) (HSL.out.2.below (Below.refl _ _).drew)
  have hS5 := keep HU2.out.2.2.2.1 hb5
  refine h_value (i := 11) (w' := w5) (.slice (some ⟨u2.heap.size, 0, none⟩) 2 2) rfl (by kernel_rfl) rfl (by rw [← hw5]; simp [execOp, go_sem, Act.put, hsz, s2, s4, s7]) hS5 ?_
  have htot : total [L.take i, L.drop j] ≤ 1000 := by have := HN.out; have := HL.out; simp [total]; omega
  refine h_call (i := 12) 19 #[.slice (some ⟨u2.heap.size, 0, none⟩) 2 2] rfl (by kernel_rfl) rfl (by simp [execOp, go_sem, Act.put, hsz, s2, s4, s7]) ((concat_any _ 2 _ w5 hC5 (by decide) htot).mono ?_)
  rintro e w6 ⟨v', rfl, hv', hb6⟩
  obtain ⟨va, vn, vc, rfl⟩ : ∃ a n c, v' = .slice a n c := by obtain ⟨a, c, h, _⟩ := hv'.form; exact ⟨_, _, _, h⟩
  have hfl : [L.take i, L.drop j].flatten = L.take i ++ L.drop j := by simp
  rw [hfl] at hv'
  have hS6 := keep hS5 hb6
  have hXr := keep (keep HU2.out.2.2.1 hb5) hb6
  refine ⟨_, rfl, hS6, ?_⟩
  refine h_take (i := 13) (arV z (.slice va vn vc)) rfl (by kernel_rfl) (by kernel_rfl) (by kernel_rfl) (fun _ _ _ h => h) rfl hS6 (fun W hW => by simp [execOp, go_sem, Act.put, hsz, s2, s4, s7]) ?_
  obtain ⟨⟨zr, r0, r1⟩, f0, f1⟩ := boxC hXr
  obtain ⟨w7, hw7, hX7, hB7, hk7, hs7⟩ := put2 w6 w2.heap.size (.int .i64 z) (.slice va vn vc) hXr
  have hS7 : w7.heap[w.heap.size]? = some (arO z (.slice a n c)) := (hk7 _ (by have := HU2.out.2.2.2.2; omega)).trans hS6
  have hne : (Value.slice va vn vc).ownBlock ≠ some w2.heap.size := box_ne hv' hXr (by decide)
  have HA : Hid (Z (.returned (.tuple #[arV z (.slice va vn vc), .int .i64 0])) w7) := by
    show Z _ _
    rw [← HZ.out, (gv_parts HOK.out).2.2, HOK.out, HIX.out, HJ.out]
    refine ⟨_, rfl, ?_, hB7 _ _ (by have := HU2.out.2.2.2.2; omega) (bsq HU2.out.2.1 (bsq hb5 hb6))⟩
    rw [← hw7]
    exact Sps.mono (ownsRow_setCell_other (ownsRow_setCell_other hv' hne _) hne _) (Nat.le_trans HU2.out.2.1.size hb5.size)
  refine h_skip (i := 14) (w' := w7) rfl (by kernel_rfl) rfl (by rw [← hw7]; simp [execOp, go_sem, Act.put, hsz, s2, s4, s7, zr, r0, r1, f0, f1]) hS7 ?_
  refine h_take (i := 15) (.int .i64 0) rfl (by kernel_rfl) (by kernel_rfl) (by kernel_rfl) (fun _ _ _ h => h) rfl hS7 (fun W hW => by simp [execOp, go_sem, Act.put, hsz, s2, s4, s7]) ?_
  refine wpAnyH_done (by kernel_rfl) ?_ _
  obtain ⟨⟨z7, y0, y1⟩, _⟩ := boxC hX7
  clear hw7 r0 r1 f0 f1
  subst ha0
  clear hsz s2 s4 s7
  go_simp
  go_wp2_with fail
  exact bodyPost_ret (v := .tuple #[arV z (.slice va vn vc), .int .i64 0]) (by simp [results, Try.results9, go_sem, z7, y0, y1]) rfl HA.out
end Go.Proofs.Ytifebinpjpalhab.arena
