/- desc: what checkFace answers. -/
import Derived.Test.YtebaepkghbihkaaDescI
namespace Go.Proofs.Ytebaepkghbihkaa.desc
open Go.RowKit Go.PlainAid Go.Proofs.Ytebaepkghbihkaa.lane Go.ChangeMaps
set_option linter.unusedVariables false

theorem gtr {w u v : World} {b : Nat} (h1 : w.grownBy u (some b)) (h2 : u.grownBy v (some b)) : w.grownBy v (some b) :=
  ⟨h2.os.trans h1.os, h2.tape.trans h1.tape, h2.output.trans h1.output, Nat.le_trans h1.size h2.size, fun k hk hne => (h2.block k (Nat.lt_of_lt_of_le hk h1.size) hne).trans (h1.block k hk hne)⟩
theorem gbel {w u : World} {b : Nat} (h : Below w.heap.size w u) : w.grownBy u (some b) := ⟨h.os, h.tape, h.output, h.size, fun k hk _ => h.block k hk⟩
theorem gdrew {w u : World} {b : Nat} (h : w.drew.grownBy u (some b)) : w.grownBy u (some b) := ⟨h.os, h.tape, h.output, h.size, fun k hk hne => h.block k hk hne⟩
theorem headF_is (f : Fc) : headF f = allB 255 [f.cl, f.su, f.pr, f.nm] := by simp [headF, allB, byt, inB]
theorem chkE_bad {tk : List (Int × Bool)} {e : En} {r : List En} (h : endOk e = false) : chkE tk (e :: r) = 1 := by rw [chkE, if_pos h]
theorem chkE_two {tk : List (Int × Bool)} {e : En} {r : List En} (h : endOk e = true) (h2 : tk.contains (wayOf e) = true) : chkE tk (e :: r) = 13 := by rw [chkE, if_neg (by simp [h]), if_pos h2]
theorem chkE_on {tk : List (Int × Bool)} {e : En} {r : List En} (h : endOk e = true) (h2 : tk.contains (wayOf e) = false) : chkE tk (e :: r) = chkE (tk ++ [wayOf e]) r := by rw [chkE, if_neg (by simp [h]), if_neg (by rw [h2]; simp)]
theorem take_way (tk : List (Int × Bool)) (en : List En) (k : Nat) (e : En) (h : en[k]? = some e) : tk ++ (en.take k).map wayOf ++ [wayOf e] = tk ++ (en.take (k + 1)).map wayOf := by
  obtain ⟨hk, he⟩ := List.getElem?_eq_some_iff.1 h
  rw [List.take_succ_eq_append_getElem hk, List.map_append, he, List.append_assoc]; rfl
theorem all_drop (ex : List (List Int)) (k : Nat) (x : List Int) (h : ex[k]? = some x) : (ex.drop k).all exOk = (exOk x && (ex.drop (k + 1)).all exOk) := by
  obtain ⟨hk, he⟩ := List.getElem?_eq_some_iff.1 h
  rw [List.drop_eq_getElem_cons hk, List.all_cons, he]

set_option maxRecDepth 100000 in
set_option maxHeartbeats 4000000 in
theorem checkFace_any (q : Fc × Value × Value) (tk : List (Int × Bool)) (b : Nat) (w : World) (hf : Rf w q) (hm : Mp w b tk) :
    Calls Try.prog 77 #[fcV q.1 q.2.1 q.2.2, .map (some b)] w fun e w' => e = .returned (.int .i64 (chkF tk q.1)) ∧ (chkF tk q.1 = 0 → Mp w' b (tk ++ q.1.en.map wayOf)) ∧ w.grownBy w' (some b) := by
  obtain ⟨⟨cl, su, pr, nm, ex, en⟩, ve, vd⟩ := q
  obtain ⟨hfx, hfn, hfb, hfz⟩ := hf
  simp only at hfx hfn hfb hfz ⊢
  obtain ⟨w0, hw0⟩ : ∃ w0, w.alloc (.cells #[.int .i64 cl, .int .i64 su, .int .i64 pr, .int .i64 nm, ve, vd] 64) = w0 := ⟨_, rfl⟩
  have hb0 : Below w.heap.size w w0 := by rw [← hw0]; exact balloc _ _
  have f0 : w0.cell? ⟨w.heap.size, 0, none⟩ = some (.int .i64 cl) := by rw [← hw0, World.cell?_alloc_new]; rfl
  have f1 : w0.cell? ⟨w.heap.size, 1, none⟩ = some (.int .i64 su) := by rw [← hw0, World.cell?_alloc_new]; rfl
  have f2 : w0.cell? ⟨w.heap.size, 2, none⟩ = some (.int .i64 pr) := by rw [← hw0, World.cell?_alloc_new]; rfl
  have f3 : w0.cell? ⟨w.heap.size, 3, none⟩ = some (.int .i64 nm) := by rw [← hw0, World.cell?_alloc_new]; rfl
  have f4 : w0.cell? ⟨w.heap.size, 4, none⟩ = some ve := by rw [← hw0, World.cell?_alloc_new]; rfl
  have f5 : w0.cell? ⟨w.heap.size, 5, none⟩ = some vd := by rw [← hw0, World.cell?_alloc_new]; rfl
  have HA : Hid (Calls Try.prog 76 #[.int .i64 255, .slice (some ⟨w0.heap.size, 0, none⟩) 4 4] (w0.alloc (.cells #[.int .i64 cl, .int .i64 su, .int .i64 pr, .int .i64 nm] 3)) fun e w' => e = .returned (.bool (allB 255 [cl, su, pr, nm])) ∧ (w0.alloc (.cells #[.int .i64 cl, .int .i64 su, .int .i64 pr, .int .i64 nm] 3)) = w') :=
    allWithin_any 255 _ [cl, su, pr, nm] _ (Rig.new w0 [cl, su, pr, nm] 3 (by simp [maxLen]))
  obtain ⟨w1, hw1⟩ : ∃ w1, w0.alloc (.cells #[.int .i64 cl, .int .i64 su, .int .i64 pr, .int .i64 nm] 3) = w1 := ⟨_, rfl⟩
  rw [hw1] at HA
  have hb01 : Below w0.heap.size w0 w1 := by rw [← hw1]; exact balloc _ _
  have hb1 : Below w.heap.size w w1 := bsq hb0 hb01
  have g4 : w1.cell? ⟨w.heap.size, 4, none⟩ = some ve := kc hb01 f4
  have g5 : w1.cell? ⟨w.heap.size, 5, none⟩ = some vd := kc hb01 f5
  have hM1 := hm.below hb1
  have HG1 : Hid (w.grownBy w1 (some b)) := gbel hb1
  have hX1 := hfx.below hb1
  have hN1 := hfn.below hb1
  obtain ⟨ax, cx, rfl, hlx, hcx, hcellx⟩ := hX1.cell
  obtain ⟨an, cn, rfl, hln, hcn, hcelln⟩ := hN1.cell
  have HCX : Hid (∀ j p, ex[j]? = some p → ∃ g off, ax = some ⟨g, off, none⟩ ∧ w1.cell? ⟨g, off + j, none⟩ = some (.string (strOfNums p))) := hcellx
  have HCN : Hid (∀ j e, en[j]? = some e → ∃ g off, an = some ⟨g, off, none⟩ ∧ w1.cell? ⟨g, off + j * 5, none⟩ = some (.int .i64 e.ad) ∧ w1.cell? ⟨g, off + j * 5 + 1, none⟩ = some (.bool e.inw) ∧ w1.cell? ⟨g, off + j * 5 + 2, none⟩ = some (.int .i64 e.kd) ∧ w1.cell? ⟨g, off + j * 5 + 3, none⟩ = some (.int .i64 e.mx) ∧ w1.cell? ⟨g, off + j * 5 + 4, none⟩ = some (.int .i64 e.iv)) := hcelln
  have HM1 : Hid (Mp w1 b tk) := hM1
  have HFB : Hid (∀ x ∈ ex, Byt x ∧ x.length ≤ maxLen) := fun x hx => ⟨hfb x hx, hfz x hx⟩
  have hch : chkF tk ⟨cl, su, pr, nm, ex, en⟩ = if allB 255 [cl, su, pr, nm] = false then 1 else if 2 < ex.length then 2 else if ex.all exOk = false then 1 else if 4 < en.length then 2 else chkE tk en := by
    unfold chkF; rw [headF_is]
  rw [hch]
  unfold maxLen at hcx hcn
  clear hfx hfn hfb hfz hm hb0 hb01 hb1 hX1 hN1 hcellx hcelln hM1 hch
  obtain ⟨nx, hnx⟩ : ∃ n, ex.length = n := ⟨_, rfl⟩
  obtain ⟨nd, hnd⟩ : ∃ n, en.length = n := ⟨_, rfl⟩
  have HNX : Hid (ex.length = nx) := hnx
  have HND : Hid (en.length = nd) := hnd
  rw [hnx] at hlx
  rw [hnd] at hln
  rw [hnx] at f4 g4
  rw [hnd] at f5 g5
  rw [hnx, hnd] at hw0 ⊢
  clear hnx hnd
  cases hall : allB 255 [cl, su, pr, nm]
  · rw [hall] at HA
    rw [if_pos rfl]
    clear hall
    go_enter Try.func77, Try.ntmps77
    go_wp2_with fail
    refine HA.out.mono ?_
    rintro e wa ⟨rfl, rfl⟩
    go_wp2
    go_ret
    exact ⟨rfl, fun h => by simp at h, HG1.out⟩
  rw [hall] at HA
  rw [if_neg (by simp)]
  clear hall
  by_cases hx2 : 2 < nx
  · rw [if_pos hx2]
    go_enter Try.func77, Try.ntmps77
    go_wp2_with fail
    refine HA.out.mono ?_
    rintro e wa ⟨rfl, rfl⟩
    go_wp2
    go_ret
    exact ⟨rfl, fun h => by simp at h, HG1.out⟩
  rw [if_neg hx2]
  obtain ⟨z, hz⟩ : ∃ z, (if ex.all exOk = false then 1 else if 4 < nd then 2 else chkE tk en) = z := ⟨_, rfl⟩
  rw [hz]
  have HZ : Hid ((if ex.all exOk = false then 1 else if 4 < nd then 2 else chkE tk en) = z) := hz
  clear hz
  go_enter Try.func77, Try.ntmps77
  go_wp2_with fail
  refine HA.out.mono ?_
  rintro e wa ⟨rfl, rfl⟩
  clear HA
  go_wp2
  go_loop [28] (fun i => ∃ k : Nat, k ≤ nx ∧ i = .int .i64 (k : Int) ∧ Hid ((ex.drop k).all exOk = ex.all exOk)) (fun i => nx - (intOf i).toNat)
  case atStart => exact ⟨0, Nat.zero_le _, rfl, rfl⟩
  case round =>
    obtain ⟨k, hk, rfl, HR⟩ := hrel
    by_cases hlt : k < nx
    · have hk1 : k < ex.length := by have := HNX.out; omega
      obtain ⟨x, hx⟩ : ∃ x, ex[k]? = some x := ⟨ex[k], List.getElem?_eq_getElem hk1⟩
      obtain ⟨g, off, rfl, c1⟩ := HCX.out k x hx
      obtain ⟨hxb, hxm⟩ := HFB.out x (List.mem_of_getElem? hx)
      have HI : Hid (Calls Try.prog 99 #[.string (strOfNums x)] w1 fun e w' => e = .returned (.bool (exOk x)) ∧ w1 = w') := isExtra_any x w1 hxb hxm
      have hR := HR.out
      rw [all_drop ex k x hx] at hR
      generalize strOfNums x = t at c1 HI
      cases hox : exOk x
      · rw [hox] at HI hR
        rw [Bool.false_and] at hR
        have HH : Hid (false = ex.all exOk) := hR
        clear HCX HCN HFB HR hR hx hox hxb hxm
        go_wp2_with fail
        refine HI.out.mono ?_
        rintro e wa ⟨rfl, rfl⟩
        go_wp2
        go_ret
        have hz := HZ.out
        rw [← HH.out, if_pos rfl] at hz
        subst hz
        exact ⟨rfl, fun h => by simp at h, HG1.out⟩
      · rw [hox] at HI hR
        rw [Bool.true_and] at hR
        have HH : Hid ((ex.drop (k + 1)).all exOk = ex.all exOk) := hR
        clear HCX HCN HFB HR hR hx hox hxb hxm
        go_wp2_with fail
        refine HI.out.mono ?_
        rintro e wa ⟨rfl, rfl⟩
        go_wp2
        go_round
        case rel => exact ⟨k + 1, by omega, by go_num, HH⟩
        case measure => simp [intOf]; omega
    · have hR := HR.out
      rw [List.drop_eq_nil_of_le (by have := HNX.out; omega)] at hR
      have HH : Hid (true = ex.all exOk) := hR
      clear HR hR HCX HFB
      by_cases hn4 : 4 < nd
      · go_wp2
        go_ret
        have hz := HZ.out
        rw [← HH.out, if_neg (by simp), if_pos hn4] at hz
        subst hz
        exact ⟨rfl, fun h => by simp at h, HG1.out⟩
      go_wp2
      go_loopw [43] (fun i wr => ∃ k : Nat, k ≤ nd ∧ i = .int .i64 (k : Int) ∧ Mp wr b (tk ++ (en.take k).map wayOf) ∧ w1.grownBy wr (some b) ∧ Hid (chkE (tk ++ (en.take k).map wayOf) (en.drop k) = chkE tk en)) (fun i _ => nd - (intOf i).toNat)
      case atStart => exact ⟨0, Nat.zero_le _, rfl, by simpa using HM1.out, World.grownBy.refl _ _, by show _ = _; simp⟩
      case round =>
        obtain ⟨k, hk, rfl, hMr, hgr, HR⟩ := hrel
        by_cases hlt : k < nd
        · have hk1 : k < en.length := by have := HND.out; omega
          obtain ⟨e, he⟩ : ∃ e, en[k]? = some e := ⟨en[k], List.getElem?_eq_getElem hk1⟩
          obtain ⟨g, off, rfl, c0, c1, c2, c3, c4⟩ := HCN.out k e he
          have d0 := map_cell HM1.out hgr c0
          have d1 := map_cell HM1.out hgr c1
          have d2 := map_cell HM1.out hgr c2
          have d3 := map_cell HM1.out hgr c3
          have d4 := map_cell HM1.out hgr c4
          have hR := HR.out
          rw [List.drop_eq_getElem_cons hk1, (List.getElem?_eq_some_iff.1 he).2] at hR
          have htw := take_way tk en k e he
          obtain ⟨T, hT⟩ : ∃ T, tk ++ (en.take k).map wayOf = T := ⟨_, rfl⟩
          rw [hT] at hR htw hMr
          have HMr : Hid (Mp wr b T) := hMr
          have HGr : Hid (w.grownBy wr (some b)) := gtr HG1.out hgr
          have HGr1 : Hid (w1.grownBy wr (some b)) := hgr
          have HTW : Hid (T ++ [wayOf e] = tk ++ (en.take (k + 1)).map wayOf) := htw
          have hIE : ∀ u : World, Calls Try.prog 100 #[evV e] u fun r w' => r = .returned (.bool (endOk e)) ∧ Below u.heap.size u w' := fun u => isEnd_any e u
          have hbd : endOk e = true → 1 ≤ e.ad ∧ e.ad ≤ 15 := fun h => ((endOk_iff e).1 h).1
          obtain ⟨w2, hw2⟩ : ∃ w2, wr.alloc (.cells #[.int .i64 e.ad, .bool e.inw, .int .i64 e.kd, .int .i64 e.mx, .int .i64 e.iv] 86) = w2 := ⟨_, rfl⟩
          have hb2 : Below wr.heap.size wr w2 := by rw [← hw2]; exact balloc _ _
          have e0 : w2.cell? ⟨wr.heap.size, 0, none⟩ = some (.int .i64 e.ad) := by rw [← hw2, World.cell?_alloc_new]; rfl
          have e1 : w2.cell? ⟨wr.heap.size, 1, none⟩ = some (.bool e.inw) := by rw [← hw2, World.cell?_alloc_new]; rfl
          have e2 : w2.cell? ⟨wr.heap.size, 2, none⟩ = some (.int .i64 e.kd) := by rw [← hw2, World.cell?_alloc_new]; rfl
          have e3 : w2.cell? ⟨wr.heap.size, 3, none⟩ = some (.int .i64 e.mx) := by rw [← hw2, World.cell?_alloc_new]; rfl
          have e4 : w2.cell? ⟨wr.heap.size, 4, none⟩ = some (.int .i64 e.iv) := by rw [← hw2, World.cell?_alloc_new]; rfl
          have HG2 : Hid (w.grownBy w2 (some b)) := gtr HGr.out (gbel hb2)
          have HM2 : Hid (Mp w2 b T) := HMr.out.below hb2
          have HG12 : Hid (w1.grownBy w2 (some b)) := gtr HGr1.out (gbel hb2)
          clear c0 c1 c2 c3 c4 hMr hgr htw hT HR hb2 HCN
          cases hok : endOk e
          · have hc1 := chkE_bad (tk := T) (r := en.drop (k + 1)) hok
            rw [hc1] at hR
            have HH' : Hid (1 = chkE tk en) := hR
            have HIE : Hid (∀ u : World, Calls Try.prog 100 #[evV e] u fun r w' => r = .returned (.bool false) ∧ Below u.heap.size u w') := fun u => by have := hIE u; rw [hok] at this; exact this
            obtain ⟨ad, inw, kd, mx, iv⟩ := e
            simp only at *
            clear hR hc1 hIE hbd hok HTW he
            go_wp2_with fail
            refine (HIE.out _).mono ?_
            rintro r w3 ⟨rfl, hb3⟩
            have HG3 : Hid (w.grownBy w3 (some b)) := gtr HG2.out (gbel hb3)
            clear hb3
            go_wp2
            go_ret
            have hz := HZ.out
            rw [← HH.out, if_neg (by simp), if_neg hn4, ← HH'.out] at hz
            subst hz
            exact ⟨rfl, fun h => by simp at h, HG3.out⟩
          · obtain ⟨ba, ba'⟩ := hbd hok
            have HIE : Hid (∀ u : World, Calls Try.prog 100 #[evV e] u fun r w' => r = .returned (.bool true) ∧ Below u.heap.size u w') := fun u => by have := hIE u; rw [hok] at this; exact this
            cases hct : T.contains (wayOf e)
            · have hc1 := chkE_on (r := en.drop (k + 1)) hok hct
              rw [hc1, HTW.out] at hR
              have HH' : Hid (chkE (tk ++ (en.take (k + 1)).map wayOf) (en.drop (k + 1)) = chkE tk en) := hR
              have HCT : Hid (T.contains (wayOf e) = false) := hct
              obtain ⟨ad, inw, kd, mx, iv⟩ := e
              simp only at *
              clear hR hc1 hIE hbd hok he hct
              go_wp2_with fail
              refine (HIE.out _).mono ?_
              rintro r w3 ⟨rfl, hb3⟩
              have r0 : w3.cell? ⟨wr.heap.size, 0, none⟩ = some (.int .i64 ad) := kc hb3 e0
              have r1 : w3.cell? ⟨wr.heap.size, 1, none⟩ = some (.bool inw) := kc hb3 e1
              obtain ⟨w4, hw4⟩ : ∃ w4, w3.alloc (.cells #[.int .i64 ad, .bool inw] 143) = w4 := ⟨_, rfl⟩
              have hb4 : Below w3.heap.size w3 w4 := by rw [← hw4]; exact balloc _ _
              have s0 : w4.cell? ⟨w3.heap.size, 0, none⟩ = some (.int .i64 ad) := by rw [← hw4, World.cell?_alloc_new]; rfl
              have s1 : w4.cell? ⟨w3.heap.size, 1, none⟩ = some (.bool inw) := by rw [← hw4, World.cell?_alloc_new]; rfl
              have hM4 : Mp w4 b T := (HM2.out.below hb3).below hb4
              have HG4 : Hid (w1.grownBy w4 (some b)) := gtr (gtr HG12.out (gbel hb3)) (gbel hb4)
              have hlk : (Instr.lookup 118 (.map (some b)) (.agg #[.int .i64 ad, .bool inw]) false).run Try.prog w4 = .ok (.int .i64 0) w4 := by
                have := hM4.look (ad, inw) ba ba'
                rw [show T.contains (ad, inw) = false from HCT.out] at this
                exact this
              have hlk2 : (Instr.lookup 118 (.map (some b)) (.agg #[.int .i64 ad, .bool inw]) false).run Try.prog w4.drew = .ok (.int .i64 0) w4.drew := by
                have := hM4.drew.look (ad, inw) ba ba'
                rw [show T.contains (ad, inw) = false from HCT.out] at this
                exact this
              obtain ⟨st, W1, W2, m1, m2, m3, m4, m5, m6⟩ := hM4.drew.enter (ad, inw) ba ba' HCT.out
              have HM5 : Hid (Mp W2 b (tk ++ (en.take (k + 1)).map wayOf)) := by rw [← HTW.out]; exact m4
              have HG5 : Hid (w1.grownBy W2 (some b)) := gtr HG4.out (gdrew m6)
              have m1' : (Instr.mapEntry 118 (.map (some b)) (.agg #[.int .i64 ad, .bool inw])).run Try.prog w4.drew = .ok (.tuple #[.int .i64 0, .int .i64 (st : Int)]) W1 := m1
              have m2' : (Instr.lookup 118 (.map (some b)) (.agg #[.int .i64 ad, .bool inw]) false).run Try.prog W1 = .ok (.int .i64 0) W1 := m2
              clear hb3 hb4 hM4 m4 m5 m6 HM2 HG2 HG12 HGr HGr1 HMr HTW HCT m1 m2 HM1
              go_wp2
              go_region
              all_goals go_wp2
              all_goals go_roundw
              case rel => exact ⟨k + 1, by omega, by go_num, HM5.out, HG5.out, HH'⟩
              case measure => simp [intOf]; omega
            · have hc1 := chkE_two (r := en.drop (k + 1)) hok hct
              rw [hc1] at hR
              have HH' : Hid (13 = chkE tk en) := hR
              have HCT : Hid (T.contains (wayOf e) = true) := hct
              obtain ⟨ad, inw, kd, mx, iv⟩ := e
              simp only at *
              clear hR hc1 hIE hbd hok HTW he hct
              go_wp2_with fail
              refine (HIE.out _).mono ?_
              rintro r w3 ⟨rfl, hb3⟩
              have r0 : w3.cell? ⟨wr.heap.size, 0, none⟩ = some (.int .i64 ad) := kc hb3 e0
              have r1 : w3.cell? ⟨wr.heap.size, 1, none⟩ = some (.bool inw) := kc hb3 e1
              obtain ⟨w4, hw4⟩ : ∃ w4, w3.alloc (.cells #[.int .i64 ad, .bool inw] 143) = w4 := ⟨_, rfl⟩
              have hb4 : Below w3.heap.size w3 w4 := by rw [← hw4]; exact balloc _ _
              have s0 : w4.cell? ⟨w3.heap.size, 0, none⟩ = some (.int .i64 ad) := by rw [← hw4, World.cell?_alloc_new]; rfl
              have s1 : w4.cell? ⟨w3.heap.size, 1, none⟩ = some (.bool inw) := by rw [← hw4, World.cell?_alloc_new]; rfl
              have hM4 : Mp w4 b T := (HM2.out.below hb3).below hb4
              have hlk : (Instr.lookup 118 (.map (some b)) (.agg #[.int .i64 ad, .bool inw]) false).run Try.prog w4 = .ok (.int .i64 1) w4 := by
                have := hM4.look (ad, inw) ba ba'
                rw [show T.contains (ad, inw) = true from HCT.out] at this
                exact this
              have HG4 : Hid (w.grownBy w4 (some b)) := gtr (gtr HG2.out (gbel hb3)) (gbel hb4)
              clear hb3 hb4 hM4 HM2 HG2 HG12 HGr HGr1 HMr HCT HM1
              go_wp2
              go_ret
              have hz := HZ.out
              rw [← HH.out, if_neg (by simp), if_neg hn4, ← HH'.out] at hz
              subst hz
              exact ⟨rfl, fun h => by simp at h, HG4.out⟩
        · have hR := HR.out
          have hfl : en.take k = en := List.take_of_length_le (by have := HND.out; omega)
          rw [List.drop_eq_nil_of_le (by have := HND.out; omega), hfl] at hR
          rw [hfl] at hMr
          have HH' : Hid (0 = chkE tk en) := hR
          have HMr : Hid (Mp wr b (tk ++ en.map wayOf)) := hMr
          have HGr : Hid (w.grownBy wr (some b)) := gtr HG1.out hgr
          clear hR HR hMr hgr hfl HCN HM1
          go_wp2
          go_ret
          have hz := HZ.out
          rw [← HH.out, if_neg (by simp), if_neg hn4, ← HH'.out] at hz
          subst hz
          exact ⟨rfl, fun _ => HMr.out, HGr.out⟩
end Go.Proofs.Ytebaepkghbihkaa.desc
