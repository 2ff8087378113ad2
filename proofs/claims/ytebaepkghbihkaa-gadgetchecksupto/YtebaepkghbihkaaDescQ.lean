/- desc: what WriteConfig answers. -/
import Derived.Test.YtebaepkghbihkaaDescP
namespace Go.Proofs.Ytebaepkghbihkaa.desc
open Go.RowKit Go.PlainAid Go.Proofs.Ytebaepkghbihkaa.lane
set_option linter.unusedVariables false

theorem facesL_at (L : FL) (k : Nat) (q : Fc × Value × Value) (h : L[k]? = some q) : facesL (k : Int) ((L.drop k).map Prod.fst) = faceL (k : Int) q.1 ++ facesL ((k + 1 : Nat) : Int) ((L.drop (k + 1)).map Prod.fst) := by
  obtain ⟨hk, he⟩ := List.getElem?_eq_some_iff.1 h
  rw [List.drop_eq_getElem_cons hk, he, List.map_cons, facesL]
  rfl
/-- what WriteConfig answers -/
def wcT (c : Cf) : ByteArray := if chkC c = 0 then strOfNums (confL c) else ⟨#[]⟩
set_option maxRecDepth 100000 in
set_option maxHeartbeats 4000000 in
theorem writeConfig_any (c : Cf) (v : Value) (L : FL) (w : World) (hc : Rc w v c L) :
    Calls Try.prog 24 #[cfV c v] w fun e w' => e = .returned (.tuple #[.string (wcT c), .int .i64 (chkC c)]) ∧ Below w.heap.size w w' := by
  obtain ⟨w0, hw0⟩ : ∃ w0, w.alloc (.cells #[.int .i64 c.va, .int .i64 c.na, .int .i64 c.atr, .int .i64 c.po, v] 26) = w0 := ⟨_, rfl⟩
  have hb0 : Below w.heap.size w w0 := by rw [← hw0]; exact balloc _ _
  obtain ⟨c0, c1, c2, c3, c4⟩ := box5 (show w0.heap[w.heap.size]? = some (.cells #[.int .i64 c.va, .int .i64 c.na, .int .i64 c.atr, .int .i64 c.po, v] 26) by rw [← hw0]; exact (MapKept.heap_alloc w _).1)
  have HC0 : Hid (Rc w0 v c L) := hc.below hb0
  have HCH : Hid (Calls Try.prog 52 #[cfV c v] w0 fun e w' => e = .returned (.int .i64 (chkC c)) ∧ Below w0.heap.size w0 w') := checkConfig_any c v L w0 HC0.out
  have HB0 : Hid (Below w.heap.size w w0) := hb0
  have hz0 : w.heap.size + 1 ≤ w0.heap.size := by rw [← hw0]; simp
  obtain ⟨a, n0, cap, rfl⟩ : ∃ a n c, v = .slice a n c := by obtain ⟨a, c, h, _⟩ := hc.fs.row; exact ⟨_, _, _, h⟩
  unfold wcT
  by_cases hz : chkC c = 0
  · rw [if_pos hz, hz]
    rw [hz] at HCH
    have hok := chkC_ok hz
    obtain ⟨⟨⟨b1, b1'⟩, ⟨b2, b2'⟩, ⟨b3, b3'⟩, b4, b4'⟩, hlen, hfok⟩ := hok
    have hcl := confL_le (chkC_ok hz)
    rw [confL_length] at hcl
    have hcf : confL c = [9, 2] ++ wrd (9 + ((facesL 0 c.fs).length : Int)) ++ [(c.fs.length : Int), c.va, c.na, c.atr, c.po] ++ facesL 0 c.fs := rfl
    rw [hcf]
    obtain ⟨va, na, atr, po, fs⟩ := c
    simp only at *
    have heq := hc.eq
    simp only at heq
    subst heq
    rw [List.length_map] at hlen ⊢
    have HFO : Hid (∀ q ∈ L, FOk q.1) := fun q hq => hfok q.1 (List.mem_map.2 ⟨q, hq, rfl⟩)
    clear hz hb0 hc hcf hfok
    go_enter Try.func24, Try.ntmps24
    go_wp2_with fail
    refine HCH.out.mono ?_
    rintro e W ⟨rfl, hbW⟩
    have HRW : Hid (Rfs W (.slice a n0 cap) L) := (HC0.out.below hbW).fs
    have HBW : Hid (Below w.heap.size w W) := bsq HB0.out hbW
    have HLT : Hid (w.heap.size < W.heap.size) := by have := hbW.size; show _ < _; omega
    have d0 := kc hbW c0
    have d1 := kc hbW c1
    have d2 := kc hbW c2
    have d3 := kc hbW c3
    have d4 := kc hbW c4
    have HD : Hid (∀ u, Below W.heap.size W u → u.cell? ⟨w.heap.size, 0, none⟩ = some (.int .i64 va) ∧ u.cell? ⟨w.heap.size, 1, none⟩ = some (.int .i64 na) ∧ u.cell? ⟨w.heap.size, 2, none⟩ = some (.int .i64 atr) ∧ u.cell? ⟨w.heap.size, 3, none⟩ = some (.int .i64 po) ∧ u.cell? ⟨w.heap.size, 4, none⟩ = some (.slice a n0 cap)) := fun u hu => ⟨kc hu d0, kc hu d1, kc hu d2, kc hu d3, kc hu d4⟩
    obtain ⟨a', cap', hv, hlc, hcm, hcell⟩ := HRW.out.cell
    injection hv with ea en ec
    subst ea en ec
    have HC : Hid (∀ u, Below W.heap.size W u → ∀ j q, L[j]? = some q → ∃ g off, a = some ⟨g, off, none⟩ ∧ u.cell? ⟨g, off + j * 6, none⟩ = some (.int .i64 q.1.cl) ∧ u.cell? ⟨g, off + j * 6 + 1, none⟩ = some (.int .i64 q.1.su) ∧ u.cell? ⟨g, off + j * 6 + 2, none⟩ = some (.int .i64 q.1.pr) ∧ u.cell? ⟨g, off + j * 6 + 3, none⟩ = some (.int .i64 q.1.nm) ∧ u.cell? ⟨g, off + j * 6 + 4, none⟩ = some q.2.1 ∧ u.cell? ⟨g, off + j * 6 + 5, none⟩ = some q.2.2) := by
      intro u hu j q hq
      obtain ⟨g, off, ha, k0, k1, k2, k3, k4, k5⟩ := hcell j q hq
      exact ⟨g, off, ha, kc hu k0, kc hu k1, kc hu k2, kc hu k3, kc hu k4, kc hu k5⟩
    have HRf : Hid (∀ u, Below W.heap.size W u → ∀ q ∈ L, Rf u q) := fun u hu q hq => (HRW.out.all q hq).below hu
    unfold maxLen at hcm
    obtain ⟨n, hn⟩ : ∃ n, L.length = n := ⟨_, rfl⟩
    have HN : Hid (L.length = n) := hn
    have HHn : Hid (chkC ⟨va, na, atr, po, L.map Prod.fst⟩ = 0 → True) := fun _ => trivial
    rw [hn] at hlc hlen d4 HD ⊢
    obtain ⟨Fz, hFz⟩ : ∃ Fz, facesL 0 (L.map Prod.fst) = Fz := ⟨_, rfl⟩
    have HFz : Hid (facesL 0 (L.map Prod.fst) = Fz) := hFz
    rw [hFz] at hcl
    clear hbW c0 c1 c2 c3 c4 hcell HRW HC0 HHn hn hw0 hFz
    go_wp2
    go_loopw [5, 17] (fun tv i wr => ∃ (k : Nat) (A : List Int), k ≤ n ∧ i = .int .i64 (k : Int) ∧ A.length ≤ 101 * k ∧ Bys wr W.heap.size tv A ∧ Below W.heap.size W wr ∧ Hid (A ++ facesL (k : Int) ((L.drop k).map Prod.fst) = Fz)) (fun _ i _ => n - (intOf i).toNat)
    case atStart => exact ⟨0, [], Nat.zero_le _, rfl, by simp, Bys.nil _ _, Below.refl _ _, HFz.out⟩
    case round =>
      obtain ⟨k, A, hk, rfl, hAl, hX, hbr, HR⟩ := hrel
      have hzr : W.heap.size ≤ wr.heap.size := hbr.size
      by_cases hlt : k < n
      · have hk1 : k < L.length := by have := HN.out; omega
        obtain ⟨q, hq⟩ : ∃ q, L[k]? = some q := ⟨L[k], List.getElem?_eq_getElem hk1⟩
        obtain ⟨g, off, rfl, k0, k1, k2, k3, k4, k5⟩ := HC.out wr hbr k q hq
        have hqm := List.mem_of_getElem? hq
        have hfo := HFO.out q hqm
        have hR := HR.out
        rw [facesL_at L k q hq, ← List.append_assoc] at hR
        have HH : Hid (A ++ faceL (k : Int) q.1 ++ facesL ((k + 1 : Nat) : Int) ((L.drop (k + 1)).map Prod.fst) = Fz) := hR
        have hfl := faceL_le (i := (k : Int)) hfo
        obtain ⟨ve1, ve2, ve3, hve⟩ : ∃ a n c, q.2.1 = .slice a n c := by obtain ⟨a, c, h, _⟩ := (HRf.out wr hbr q hqm).ex; exact ⟨_, _, _, h⟩
        obtain ⟨vd1, vd2, vd3, hvd⟩ : ∃ a n c, q.2.2 = .slice a n c := by obtain ⟨a, c, h, _⟩ := (HRf.out wr hbr q hqm).en; exact ⟨_, _, _, h⟩
        obtain ⟨w3, hw3⟩ : ∃ w3, wr.alloc (.cells #[.int .i64 q.1.cl, .int .i64 q.1.su, .int .i64 q.1.pr, .int .i64 q.1.nm, q.2.1, q.2.2] 64) = w3 := ⟨_, rfl⟩
        have hb3 : Below wr.heap.size wr w3 := by rw [← hw3]; exact balloc _ _
        have hbW3 : Below W.heap.size W w3 := hbr.trans (hb3.mono hzr)
        obtain ⟨e0, e1, e2, e3, e4, e5⟩ := box6 (show w3.heap[wr.heap.size]? = some (.cells #[.int .i64 q.1.cl, .int .i64 q.1.su, .int .i64 q.1.pr, .int .i64 q.1.nm, q.2.1, q.2.2] 64) by rw [← hw3]; exact (MapKept.heap_alloc wr _).1)
        have HAF : Hid (Calls Try.prog 53 #[u5, .int .i64 (k : Int), fcV q.1 q.2.1 q.2.2] w3 fun r w' => ∃ v', r = .returned v' ∧ Bys w' W.heap.size v' (A ++ faceL (k : Int) q.1) ∧ Below W.heap.size w3 w') :=
          appendFace_any W.heap.size u5 A k q w3 (by omega) hfo (Bys.below hX hb3) (Nat.le_trans hzr hb3.size) (by omega) (fun u hu => HRf.out u (hbW3.trans hu) q hqm)
        have HB3 : Hid (Below W.heap.size W w3) := hbW3
        obtain ⟨FL1, hFL1⟩ : ∃ F, faceL (k : Int) q.1 = F := ⟨_, rfl⟩
        rw [hFL1] at HAF HH hfl
        obtain ⟨⟨cl, su, pr, nm, ex, en⟩, ve, vd⟩ := q
        simp only at *
        subst hve hvd
        clear HC HFO HRf HR hR hq hqm hfo hX hbr hb3 hbW3 hFL1
        go_wp2_with fail
        refine HAF.out.mono ?_
        rintro r w4 ⟨v4, rfl, q1, q2⟩
        have HX4 : Hid (Bys w4 W.heap.size v4 (A ++ FL1)) := q1
        have HB4 : Hid (Below W.heap.size W w4) := HB3.out.trans q2
        clear q1 q2 HAF HB3
        go_wp2
        go_roundw
        case rel => exact ⟨k + 1, A ++ FL1, by omega, by go_num, by rw [List.length_append]; omega, HX4.out, HB4.out, HH⟩
        case measure => simp [intOf]; omega
      · have hR := HR.out
        rw [List.drop_eq_nil_of_le (by have := HN.out; omega), List.map_nil, facesL, List.append_nil] at hR
        subst hR
        have HX : Hid (Bys wr W.heap.size u5 A) := hX
        obtain ⟨fa, fc, rfl, _, _⟩ := own_form hX
        obtain ⟨wb, hwb⟩ : ∃ wb, wr.alloc (.cells #[.int .u8 9, .int .u8 2] 5) = wb := ⟨_, rfl⟩
        have HT : Hid (Bys wb wr.heap.size (.slice (some ⟨wr.heap.size, 0, none⟩) 2 2) [9, 2]) := by rw [← hwb]; exact bys_lit wr _ [9, 2] (Nat.le_refl _) (by simp [maxLen])
        have hbb : Below wr.heap.size wr wb := by rw [← hwb]; exact balloc _ _
        have HBb : Hid (Below wr.heap.size wr wb) := hbb
        have HBr : Hid (Below W.heap.size W wr) := hbr
        obtain ⟨m, hm⟩ : ∃ m, A.length = m := ⟨_, rfl⟩
        rw [hm] at hcl HX ⊢
        have HM : Hid (A.length = m) := hm
        have hzb : wr.heap.size ≤ wb.heap.size := hbb.size
        clear HR hX hbr hbb HC HFO HRf hm
        go_wp2_with fail
        refine (appendWord_any wr.heap.size _ [9, 2] (9 + (m : Int)) (by omega) (by omega) _ HT.out hzb (by decide)).mono ?_
        rintro r wc ⟨v1, rfl, h1, h2⟩
        have HBc : Hid (Below wr.heap.size wr wc) := HBb.out.trans h2
        have HXc : Hid (Bys wc wr.heap.size v1 ([9, 2] ++ wrd (9 + (m : Int)))) := h1
        obtain ⟨c0, c1, c2, c3, c4⟩ := HD.out wc (HBr.out.trans (HBc.out.mono hzr))
        have hzc : wr.heap.size ≤ wc.heap.size := HBc.out.size
        clear h1 h2 hwb HT HBb d0 d1 d2 d3 d4
        go_wp2_with (at_builtin; (refine wpList_bys _ rfl _ _ rfl wr.heap.size _ ([9, 2] ++ wrd (9 + (m : Int))) rfl (World.ownsRow.alloc HXc.out _) wc.heap.size 5 5 [(n : Int), va, na, atr, po] rfl rfl (bys_new wc [(n : Int), va, na, atr, po] _) (by simp [wrd]) (by omega) (by simp; omega) ?_))
        intro v2 wd h1 hg1 h2
        have HBd : Hid (Below wr.heap.size wr wd) := (HBc.out.alloc (by omega) _).trans h2
        obtain ⟨Hd, hHd⟩ : ∃ Hd, [9, 2] ++ wrd (9 + (m : Int)) ++ [(n : Int), va, na, atr, po] = Hd := ⟨_, rfl⟩
        have h3 : Bys wd wr.heap.size v2 Hd := by rw [← hHd]; simpa using h1
        have HXd : Hid (Bys wd wr.heap.size v2 Hd) := h3
        have HHd : Hid ([9, 2] ++ wrd (9 + (m : Int)) ++ [(n : Int), va, na, atr, po] = Hd) := hHd
        have hHl : Hd.length = 9 := by rw [← hHd]; rfl
        have HXf : Hid (Bys wd W.heap.size (.slice fa m fc) A) := own_below HX.out HBd.out
        have hzd : wr.heap.size ≤ wd.heap.size := HBd.out.size
        have hAm : A.length ≤ 1000000 := by have := HM.out; omega
        clear h1 h2 h3 hg1 HXc HBc c0 c1 c2 c3 c4 hHd HX
        go_wp2_with (at_builtin; (refine wpList_brow _ rfl _ _ rfl wr.heap.size W.heap.size _ _ Hd A rfl HXd.out rfl HXf.out (by omega) hAm hzd ?_))
        intro v5 we h1 h2
        have HBe : Hid (Below w.heap.size w we) := (HBW.out.trans (HBr.out.mono HBW.out.size)).trans ((HBd.out.trans h2).mono (Nat.le_trans HBW.out.size hzr))
        have hcv := h1.conv
        obtain ⟨X, hX⟩ : ∃ X, strOfNums (Hd ++ A) = X := ⟨_, rfl⟩
        rw [hX] at hcv
        have HX : Hid (strOfNums (Hd ++ A) = X) := hX
        clear h1 h2 hX HXd HXf
        go_wp2
        go_ret2
        refine ⟨?_, HBe.out⟩
        rw [HFz.out, ← HX.out, ← HHd.out, HM.out, HN.out]
        rfl
  · rw [if_neg hz]
    have hzz : (chkC c != 0) = true := by simpa using hz
    generalize chkC c = z at *
    obtain ⟨va, na, atr, po, fs⟩ := c
    simp only at *
    clear hz hc HC0 hb0
    go_enter Try.func24, Try.ntmps24
    go_wp2_with fail
    refine HCH.out.mono ?_
    rintro e W ⟨rfl, hbW⟩
    have HBW : Hid (Below w.heap.size w W) := bsq HB0.out hbW
    clear hbW
    go_wp2
    go_ret2
    exact ⟨rfl, HBW.out⟩
end Go.Proofs.Ytebaepkghbihkaa.desc
