/- slices.Equal and slices.Clone of spans; plugref.SameArena; plugkeep.arenaLives. -/
import Derived.Test.YtifebinpjpalhaaAreA
import Derived.Lib.SliceRun
import Derived.Laws.StructEq
import Derived.Test.YtifebinpjpalhaaAreH
namespace Go.Proofs.Ytifebinpjpalhaa.arena
open Go.RowKit
set_option linter.unusedVariables false
set_option linter.unusedSimpArgs false
set_option maxRecDepth 100000

theorem und : Try.prog.underlying 43 = some (.struct (Try.prog.fieldsOf 43)) := by kernel_rfl
theorem stood : Try.prog.stoodInHeld 43 = false := by kernel_rfl
theorem eq_sp (p s q t : Int) (w : World) : (Op.equalIn 10000 43 (spV p s) (spV q t)).run Try.prog w = .ok (p == q && s == t) w := by
  rw [run_equalIn_struct w 9999 43 _ _ und stood]
  simp [go_sem]
  by_cases h1 : p = q <;> by_cases h2 : s = t <;> simp [h1, h2]
theorem eql_sp (p s q t : Int) (w : World) : (binOp .eql 43 (spV p s) (spV q t)).run Try.prog w = .ok (.bool (p == q && s == t)) w := by
  rw [run_eql_struct, eq_sp]; rfl
theorem neq_sp (p s q t : Int) (w : World) : (binOp .neq 43 (spV p s) (spV q t)).run Try.prog w = .ok (.bool (!(p == q && s == t))) w := by
  rw [run_neq_struct, eq_sp]; rfl
set_option maxHeartbeats 2000000 in
theorem equalS_drew (v1 v2 : Value) (ps qs : List Sp) (w : World) (h1 : Rss w v1 ps) (h2 : Rss w v2 qs) :
    Calls Try.prog 23 #[v1, v2] w fun e w' => e = .returned (.bool (decide (ps = qs))) ∧ ∃ m, w' = w.drewN m := by
  obtain ⟨a, c, rfl, hlc, hcm⟩ := h1.form
  obtain ⟨b, d, rfl, hld, hdm⟩ := h2.form
  have HA : Hid (Rss w (.slice a ps.length c) ps) := h1
  have HB : Hid (Rss w (.slice b qs.length d) qs) := h2
  unfold maxLen at hcm hdm
  clear h1 h2
  by_cases hlen : ps.length = qs.length
  · have HL : Hid (ps.length = qs.length) := hlen
    obtain ⟨n, hn⟩ : ∃ n, ps.length = n := ⟨_, rfl⟩
    have hm : qs.length = n := by omega
    have HN : Hid (ps.length = n) := hn
    rw [hn] at HA
    rw [hm] at HB
    have HM : Hid (qs.length = n) := hm
    rw [hn] at hlc
    rw [hm] at hld
    rw [hn, hm]
    clear hn hm hlen
    go_enter Try.func23, Try.ntmps23
    go_wp2
    go_loopw [13] (fun i wr => ∃ (k q : Nat), k ≤ n ∧ i = .int .i64 (k : Int) ∧ wr = w.drewN q ∧ Hid (decide (ps.drop k = qs.drop k) = decide (ps = qs))) (fun i _ => n - (intOf i).toNat)
    case atStart => exact ⟨0, 0, Nat.zero_le _, rfl, rfl, rfl⟩
    case round =>
      obtain ⟨k, q, hk, rfl, rfl, HR⟩ := hrel
      by_cases hlt : k < n
      · have hk1 : k < ps.length := by have := HN.out; omega
        have hk2 : k < qs.length := by have := HM.out; omega
        obtain ⟨g, off, rfl, hca⟩ := HA.out.at k ps[k] (List.getElem?_eq_getElem hk1)
        obtain ⟨g', off', rfl, hcb⟩ := HB.out.at k qs[k] (List.getElem?_eq_getElem hk2)
        obtain ⟨c0, c1⟩ := hca w (Below.refl _ _)
        obtain ⟨d0, d1⟩ := hcb w (Below.refl _ _)
        have hR := HR.out
        rw [List.drop_eq_getElem_cons hk1, List.drop_eq_getElem_cons hk2] at hR
        generalize ps[k] = x at c0 c1 hR
        generalize qs[k] = y at d0 d1 hR
        by_cases hxy : x = y
        · subst hxy
          have HR2 : Hid (decide (ps.drop (k + 1) = qs.drop (k + 1)) = decide (ps = qs)) := by
            show _ = _
            rw [← hR]; simp
          obtain ⟨x1, x2⟩ := x
          simp only at c0 c1 d0 d1
          have hneq : ∀ u, (binOp .neq 43 (spV x1 x2) (spV x1 x2)).run Try.prog u = .ok (.bool false) u := fun u => by rw [neq_sp]; simp
          clear HA HB HL HN HM HR hR hca hcb
          go_wp2
          go_region
          go_wp2
          go_roundw
          case rel => exact ⟨k + 1, q + _, by omega, by go_num, rfl, HR2.out⟩
          case measure => simp [intOf]; omega
        · have HR2 : Hid (false = decide (ps = qs)) := by
            show _ = _
            rw [← hR]; symm; rw [decide_eq_false_iff_not]
            intro h; exact hxy (by injection h)
          obtain ⟨x1, x2⟩ := x
          obtain ⟨y1, y2⟩ := y
          simp only at c0 c1 d0 d1
          have hneq : ∀ u, (binOp .neq 43 (spV x1 x2) (spV y1 y2)).run Try.prog u = .ok (.bool true) u := fun u => by
            rw [neq_sp, show (x1 == y1 && x2 == y2) = false by
              rw [Bool.and_eq_false_iff, beq_eq_false_iff_ne, beq_eq_false_iff_ne]
              by_cases q : x1 = y1
              · exact .inr fun q2 => hxy (by rw [q, q2])
              · exact .inl q]
            rfl
          clear HA HB HL HN HM HR hR hxy hca hcb
          go_wp2
          go_region
          go_wp2
          go_ret
          rw [← HR2.out]
          exact ⟨rfl, _, rfl⟩
      · have hR := HR.out
        rw [List.drop_eq_nil_of_le (by have := HN.out; omega), List.drop_eq_nil_of_le (by have := HM.out; omega)] at hR
        have HR2 : Hid (true = decide (ps = qs)) := by show _ = _; rw [← hR]; simp
        clear HA HB HL HN HM HR hR
        go_wp2
        go_ret
        rw [← HR2.out]
        exact ⟨rfl, _, rfl⟩
  · have e : decide (ps = qs) = false := by rw [decide_eq_false_iff_not]; intro h; exact hlen (by rw [h])
    rw [e]
    have hne : ((ps.length : Int) != (qs.length : Int)) = true := by rw [bne_iff_ne]; omega
    generalize ps.length = n at *
    generalize qs.length = m at *
    clear HA HB e hlen
    go_enter Try.func23, Try.ntmps23
    go_wp2
    go_ret
    exact ⟨rfl, 0, rfl⟩
theorem equalS_any (v1 v2 : Value) (ps qs : List Sp) (w : World) (h1 : Rss w v1 ps) (h2 : Rss w v2 qs) :
    Calls Try.prog 23 #[v1, v2] w fun e w' => e = .returned (.bool (decide (ps = qs))) ∧ Below w.heap.size w w' :=
  (equalS_drew v1 v2 ps qs w h1 h2).mono fun e w' ⟨he, m, hw⟩ => ⟨he, by rw [hw]; exact below_drewN (Below.refl _ _) m⟩
def samB (a b : Ar) : Bool := (a.z == b.z) && decide (a.L = b.L)
theorem samB_same (a : Ar) : samB a a = true := by simp [samB]
set_option maxHeartbeats 1000000 in
theorem same_any (a b : Ar) (v1 v2 : Value) (w : World) (h1 : Rss w v1 a.L) (h2 : Rss w v2 b.L) :
    Calls Try.prog 13 #[arV a.z v1, arV b.z v2] w fun e w' => e = .returned (.bool (samB a b)) ∧ Below w.heap.size w w' := by
  obtain ⟨w1, hw1, hX1, hb1⟩ := named w (arO a.z v1)
  obtain ⟨w2, hw2, hX2, hb2⟩ := named w1 (arO b.z v2)
  have hX12 := keep hX1 hb2
  have HB2 : Hid (Below w.heap.size w w2) := bsq hb1 hb2
  have HE : Hid (Calls Try.prog 23 #[v1, v2] w2 fun e w' => e = .returned (.bool (decide (a.L = b.L))) ∧ Below w2.heap.size w2 w') := equalS_any v1 v2 a.L b.L w2 (h1.below (bsq hb1 hb2)) (h2.below (bsq hb1 hb2))
  obtain ⟨a1, c1, n1, rfl⟩ : ∃ a c n, v1 = .slice a n c := by obtain ⟨a, c, h, _⟩ := h1; exact ⟨_, _, _, h⟩
  obtain ⟨a2, c2, n2, rfl⟩ : ∃ a c n, v2 = .slice a n c := by obtain ⟨a, c, h, _⟩ := h2; exact ⟨_, _, _, h⟩
  obtain ⟨⟨hz, x0, x1⟩, _⟩ := boxC hX12
  obtain ⟨⟨hz', y0, y1⟩, _⟩ := boxC hX2
  unfold samB
  generalize a.z = p at *
  generalize b.z = q at *
  generalize decide (a.L = b.L) = d at *
  clear h1 h2 hX1 hX2 hX12 hb1 hb2
  cases hs : (p == q)
  · clear HE
    go_enter Try.func13, Try.ntmps13
    go_wp2
    go_ret
    exact ⟨rfl, HB2.out⟩
  · go_enter Try.func13, Try.ntmps13
    go_wp2_with fail
    refine HE.out.mono ?_
    rintro e u ⟨rfl, hb⟩
    have HB : Hid (Below w.heap.size w u) := bsq HB2.out hb
    clear hb HE HB2
    go_wp2
    go_ret
    exact ⟨rfl, HB.out⟩
theorem cloneS_any (v : Value) (es : List Sp) (w : World) (h : Rss w v es) (hl : es.length ≤ 8796093021952) :
    Calls Try.prog 29 #[v] w fun e w' => ∃ v', e = .returned v' ∧ Sps w' w.heap.size v' es ∧ Below w.heap.size w w' := by
  have HR : Hid (Rss w v es) := h
  obtain ⟨ax, cx, rfl, h1, h2, h4⟩ := h
  have HN : Hid (ax = none → es = []) := fun q => by
    subst q
    rcases Nat.eq_zero_or_pos es.length with q | q
    · exact List.eq_nil_of_length_eq_zero q
    · obtain ⟨g, off, q1, _⟩ := h4 q; cases q1
  obtain ⟨n, hn⟩ : ∃ n, es.length = n := ⟨_, rfl⟩
  rw [hn] at HR hl ⊢
  have HE : Hid (es.length = n) := hn
  clear h1 h2 h4 hn
  cases ax with
  | none =>
    have hes := HN.out rfl
    subst hes
    have hnl := fun (w : World) => Lib.run_eql_slice_nil (P := Try.prog) w 22 43 none n cx 0 0 Try.underlying22
    clear HR HN HE
    go_enter Try.func29, Try.ntmps29
    go_wp2
    go_ret
    exact ⟨_, rfl, Sps.nil _ _, Below.refl _ _⟩
  | some ad =>
    have hnl := fun (w : World) => Lib.run_eql_slice_nil (P := Try.prog) w 22 43 (some ad) n cx 0 0 Try.underlying22
    clear HN
    go_enter Try.func29, Try.ntmps29
    go_wp2_with
      (at_builtin
       refine wpList_sps _ rfl _ _ rfl w.heap.size _ [] rfl (World.ownsRow_made w #[] 0 (Nat.le_refl _) (Nat.zero_le _) rfl) _ es rfl (HR.out.below (balloc _ _)) (by have := HE.out; simp; omega) (by simp) ?_
       intro v' w' q1 q2 q3
       have t1 : Hid (Sps w' w.heap.size v' es) := q1
       have t2 : Hid (Below w.heap.size w w') := ((Below.refl _ _).alloc (Nat.le_refl _) _).trans q3
       clear q1 q2 q3)
    go_wp2
    go_ret
    exact ⟨_, rfl, t1.out, t2.out⟩
def lvA : Ar := ⟨100, [(0, 5), (16, 1)]⟩
def lvB : Ar := ⟨100, [(0, 5), (8, 8), (16, 1)]⟩
theorem lives_c : tkC lvA 8 8 = 0 ∧ tkP lvA 8 8 = 8 ∧ (tkV lvA 8 8).z = 100 ∧ (tkV lvA 8 8).L = lvB.L := by decide +kernel
theorem lives_v : tkV lvA 8 8 = lvB := by
  have h := lives_c
  generalize tkV lvA 8 8 = a at h
  obtain ⟨z, L⟩ := a
  obtain ⟨_, _, h1, h2⟩ := h
  simp only at h1 h2
  rw [h1, h2]; rfl
set_option maxHeartbeats 1000000 in
theorem lives_any (w : World) : Calls Try.prog 19 #[] w fun e w' => e = .returned (.bool true) ∧ Below w.heap.size w w' := by
  obtain ⟨w1, hw1⟩ : ∃ w1, w.alloc (.cells #[.int .i64 0, .int .i64 5, .int .i64 16, .int .i64 1] 43) = w1 := ⟨_, rfl⟩
  have hb1 : Below w.heap.size w w1 := by rw [← hw1]; exact balloc _ _
  have h1 : Rss w1 (.slice (some ⟨w.heap.size, 0, none⟩) 2 2) lvA.L := by rw [← hw1]; exact rss_laid w lvA.L (by decide)
  have HT : Hid (Calls Try.prog 15 #[arV 100 (.slice (some ⟨w.heap.size, 0, none⟩) 2 2), .int .i64 8, .int .i64 8] w1 fun e w' => ∃ v, e = .returned (.tuple #[arV 100 v, .int .i64 8, .int .i64 0]) ∧ Sps w' w1.heap.size v lvB.L ∧ Below w1.heap.size w1 w') := by
    have := take_any 100 (.slice (some ⟨w.heap.size, 0, none⟩) 2 2) lvA.L 8 8 w1 h1 (by intro x hx; simp [lvA] at hx; rcases hx with rfl | rfl <;> decide)
    have e : (⟨100, lvA.L⟩ : Ar) = lvA := rfl
    rw [e, lives_c.1, lives_c.2.1, lives_v] at this
    exact this
  have HB1 : Hid (Below w.heap.size w w1) := hb1
  clear hb1 h1
  go_enter Try.func19, Try.ntmps19
  go_wp2_with fail
  refine HT.out.mono ?_
  rintro e u ⟨v, rfl, hv, hb⟩
  obtain ⟨u1, uf, hu1, huf, hY1, hYf, hbf⟩ := laid2 u 24 (.int .i64 0) (.slice none 0 0) (.int .i64 100) v
  obtain ⟨u2, hu2⟩ : ∃ u2, uf.alloc (.cells #[.int .i64 0, .int .i64 5, .int .i64 8, .int .i64 8, .int .i64 16, .int .i64 1] 43) = u2 := ⟨_, rfl⟩
  have hb2 : Below uf.heap.size uf u2 := by rw [← hu2]; exact balloc _ _
  have h2 : Rss u2 (.slice (some ⟨uf.heap.size, 0, none⟩) 3 3) lvB.L := by rw [← hu2]; exact rss_laid uf lvB.L (by decide)
  have HS : Hid (Calls Try.prog 13 #[arV 100 v, arV 100 (.slice (some ⟨uf.heap.size, 0, none⟩) 3 3)] u2 fun e w' => e = .returned (.bool true) ∧ Below u2.heap.size u2 w') := by
    have := same_any lvB lvB v (.slice (some ⟨uf.heap.size, 0, none⟩) 3 3) u2 (hv.rss.below (bsq hbf hb2)) h2
    rw [samB_same] at this
    exact this
  have HB2 : Hid (Below w.heap.size w u2) := bsq HB1.out (bsq hb (bsq hbf hb2))
  obtain ⟨va, vn, vc, rfl⟩ : ∃ a n c, v = .slice a n c := by obtain ⟨a, c, h, _⟩ := hv.form; exact ⟨_, _, _, h⟩
  obtain ⟨⟨hz, x0, x1⟩, f0, f1⟩ := boxC hY1
  obtain ⟨⟨hz', y0, y1⟩, _⟩ := boxC hYf
  clear hv hb hY1 hYf hbf hb2 h2 HT HB1
  go_wp2_with fail
  try rw [huf]
  try rw [hu2]
  refine HS.out.mono ?_
  rintro e u3 ⟨rfl, hb3⟩
  have HB3 : Hid (Below w.heap.size w u3) := bsq HB2.out hb3
  clear hb3 HS HB2
  go_wp2
  go_ret
  exact ⟨rfl, HB3.out⟩
end Go.Proofs.Ytifebinpjpalhaa.arena
