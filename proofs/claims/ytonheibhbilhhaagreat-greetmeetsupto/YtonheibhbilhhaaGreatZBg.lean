/- plugref: what ConfigText answers. -/
import Derived.Test.YtonheibhbilhhaaGreatDescBj
import Derived.Test.YtonheibhbilhhaaGreatZBf
import Derived.Test.YtonheibhbilhhaaGreatZBe
import Derived.Test.YtonheibhbilhhaaGreatZAf
namespace Go.Proofs.YtonheibhbilhhaaGreat.desc
open Go.RowKit Go.PlainAid Go.Proofs.YtonheibhbilhhaaGreat.lane
set_option linter.unusedVariables false
set_option linter.unusedSimpArgs false
set_option maxRecDepth 100000
theorem box_grow {wr w' : World} {B R s n : Nat} {e T : TypeId} {v : Value} {xs : List Value} {cs : Array Value} (own : wr.ownsRow B e s v n xs) (hR : wr.heap[R]? = some (.cells cs T)) (he : e ≠ T) (hg : wr.grownBy w' v.ownBlock) :
  w'.heap[R]? = some (.cells cs T) := (hg.block R (Array.getElem?_eq_some_iff.1 hR).1 (fun q => box_ne own hR he q.symm)).trans hR
theorem Rfs.at {w : World} {a : Option Addr} {n c : Nat} {L : FL} (h : Rfs w (.slice a n c) L) : ∀ j q, L[j]? = some q → ∃ g off, a = some ⟨g, off, none⟩ ∧ w.cell? ⟨g, off + j * 6, none⟩ = some (.int .i64 q.1.cl) ∧ w.cell? ⟨g, off + j * 6 + 1, none⟩ = some (.int .i64 q.1.su) ∧ w.cell? ⟨g, off + j * 6 + 2, none⟩ = some (.int .i64 q.1.pr) ∧ w.cell? ⟨g, off + j * 6 + 3, none⟩ = some (.int .i64 q.1.nm) ∧ w.cell? ⟨g, off + j * 6 + 4, none⟩ = some q.2.1 ∧ w.cell? ⟨g, off + j * 6 + 5, none⟩ = some q.2.2 := by
 obtain ⟨a', c', e, _, _, h4⟩ := h.cell
 injection e with e1 e2 e3
 subst e1
 exact h4
theorem bof_ok {us : List Int} (h : allB 255 us = true) : bof us = strOfNums us := by unfold bof; rw [if_pos h]
theorem faceH_all (k : Nat) (f : Fc) (hk : k ≤ 255) (h : FOk f) : allB 255 (faceH (k : Int) f) = true := by
 obtain ⟨⟨⟨a1, a2⟩, ⟨b1, b2⟩, ⟨c1, c2⟩, d1, d2⟩, _, _, h4, _⟩ := h
 simp [allB, inB, faceH]
 omega
def endR (e : En) : List Int := [7, 5, if e.inw = true then e.ad + 128 else e.ad, e.kd, e.mx, 0, e.iv]
theorem endR_is {e : En} (h : endOk e = true) : endR e = endL e ∧ allB 255 (endR e) = true := by
 obtain ⟨⟨a1, a2⟩, ⟨b1, b2⟩, ⟨c1, c2⟩, d1, d2⟩ := (endOk_iff e).1 h
 obtain ⟨ad, inw, kd, mx, iv⟩ := e
 simp only at *
 constructor
 ·cases inw <;> simp [endR, endL, wrd] <;> omega
 ·cases inw <;> simp [endR, allB, inB] <;> omega
theorem chkFs_step {tk : List (Int × Bool)} {L : FL} {k : Nat} {q : Fc × Value × Value} (h : L[k]? = some q) : chkFs tk ((L.drop k).map Prod.fst) = if chkF tk q.1 = 0 then chkFs (tk ++ q.1.en.map wayOf) ((L.drop (k + 1)).map Prod.fst) else chkF tk q.1 := by
 obtain ⟨hk, he⟩ := List.getElem?_eq_some_iff.1 h
 rw [List.drop_eq_getElem_cons hk, he, List.map_cons, chkFs]
theorem faceL_len {f : Fc} (h : FOk f) (i : Int) : (faceL i f).length ≤ 101 := by
 have := facesL_le [f] i (fun g hg => by simp at hg; subst hg; exact h)
 rw [facesL, facesL, List.append_nil] at this
 simpa using this
theorem conf_text (va na atr po : Int) (fs : List Fc) : (⟨#[9, 2]⟩ : ByteArray) ++ strOfNums (wrd (9 + ((facesL 0 fs).length : Int))) ++ strOfNums [(fs.length : Int)] ++ strOfNums [va, na, atr, po] ++ strOfNums (facesL 0 fs) = strOfNums (confL ⟨va, na, atr, po, fs⟩) := by
 have e : (⟨#[9, 2]⟩ : ByteArray) = strOfNums [9, 2] := rfl
 rw [e, ← str_append, ← str_append, ← str_append, ← str_append]
 congr 1
set_option maxHeartbeats 16000000 in
theorem configText_any (c : Cf) (v : Value) (L : FL) (w : World) (hc : Rc w v c L) :
  Calls Tryz.prog 33 #[cfV c v] w fun e w' => e = .returned (.tuple #[.string (wcT c), .int .i64 (chkC c)]) ∧ Below w.heap.size w w' := by
 obtain ⟨va, na, atr, po, fs⟩ := c
 obtain ⟨hfs, heq⟩ := hc
 simp only at heq ⊢
 subst heq
 have HWT : Hid (wcT ⟨va, na, atr, po, L.map Prod.fst⟩ = if chkC ⟨va, na, atr, po, L.map Prod.fst⟩ = 0 then strOfNums (confL ⟨va, na, atr, po, L.map Prod.fst⟩) else ⟨#[]⟩) := rfl
 have HCC : Hid (chkC ⟨va, na, atr, po, L.map Prod.fst⟩ = if (!(va == 0) && allB 255 [va, na, atr, po]) = false then 1 else if 4 < L.length then 2 else chkFs [] (L.map Prod.fst)) := by
  show _ = _
  unfold chkC; rw [headC_is, List.length_map]
 have HTX : Hid _ := conf_text va na atr po (L.map Prod.fst)
 have HCO : Hid (chkC ⟨va, na, atr, po, L.map Prod.fst⟩ = 0 → (facesL 0 (L.map Prod.fst)).length ≤ 404 ∧ COk ⟨va, na, atr, po, L.map Prod.fst⟩) := fun h => by
  have h1 := chkC_ok h
  have h2 := confL_le h1
  rw [confL_length] at h2
  simp only at h2
  exact ⟨by omega, h1⟩
 obtain ⟨WT, hWT⟩ : ∃ t, wcT ⟨va, na, atr, po, L.map Prod.fst⟩ = t := ⟨_, rfl⟩
 obtain ⟨z, hz⟩ : ∃ t, chkC ⟨va, na, atr, po, L.map Prod.fst⟩ = t := ⟨_, rfl⟩
 rw [hWT, hz] at HWT
 rw [hz] at HCC HCO
 rw [hWT, hz]
 clear hWT hz
 obtain ⟨w0, hw0⟩ : ∃ w0, w.alloc (cfO va na atr po v) = w0 := ⟨_, rfl⟩
 have hb0 : Below w.heap.size w w0 := by rw [← hw0]; exact balloc _ _
 have hC0 : w0.heap[w.heap.size]? = some (cfO va na atr po v) := by rw [← hw0]; exact (MapKept.heap_alloc w _).1
 have HX : Hid (∀ u, Below w0.heap.size w0 u → (u.cell? ⟨w.heap.size, 0, none⟩ = some (.int .i64 va) ∧ u.cell? ⟨w.heap.size, 1, none⟩ = some (.int .i64 na) ∧ u.cell? ⟨w.heap.size, 2, none⟩ = some (.int .i64 atr) ∧ u.cell? ⟨w.heap.size, 3, none⟩ = some (.int .i64 po) ∧ u.cell? ⟨w.heap.size, 4, none⟩ = some v) ∧ Rfs u v L) := fun u hu => ⟨(box5f (res_below hC0 hu)).1.2, hfs.below (bsq hb0 hu)⟩
 have HB0 : Hid (Below w.heap.size w w0) := hb0
 have HO1 : Hid (∀ u : World, Calls Tryz.prog 41 #[.slice (some ⟨u.heap.size, 0, none⟩) 4 4] (u.alloc (.cells #[.int .i64 va, .int .i64 na, .int .i64 atr, .int .i64 po] 3)) fun e w' => e = .returned (.tuple #[.string (bof [va, na, atr, po]), .bool (allB 255 [va, na, atr, po])]) ∧ Below u.heap.size u w') := fun u => (bytesOf_any _ [va, na, atr, po] _ (Rig.new u [va, na, atr, po] 3 (by simp [maxLen])) (by simp)).mono fun e w' h => ⟨h.1, bsq (balloc u _) h.2⟩
 have HON : Hid (∀ (n : Nat) (u : World), Calls Tryz.prog 41 #[.slice (some ⟨u.heap.size, 0, none⟩) 1 1] (u.alloc (.cells #[.int .i64 (n : Int)] 3)) fun e w' => e = .returned (.tuple #[.string (bof [(n : Int)]), .bool (allB 255 [(n : Int)])]) ∧ Below u.heap.size u w') := fun n u => (bytesOf_any _ [(n : Int)] _ (Rig.new u [(n : Int)] 3 (by simp [maxLen])) (by simp)).mono fun e w' h => ⟨h.1, bsq (balloc u _) h.2⟩
 have HTB : Hid (∀ (n : Int) (w : World), 0 ≤ n → n ≤ 65535 → Calls Tryz.prog 69 #[.int .i64 n] w fun e w' => e = .returned (.string (strOfNums (wrd n))) ∧ Below w.heap.size w w') := fun n w h0 h1 => twoBytes_any n h0 h1 w
 obtain ⟨⟨c0, c1, c2, c3, c4⟩, _⟩ := HX.out w0 (Below.refl _ _)
 obtain ⟨a, cap, rfl, hlc, hcm, _⟩ := hfs.cell
 unfold maxLen at hcm
 obtain ⟨n, hn⟩ : ∃ n, L.length = n := ⟨_, rfl⟩
 have HN : Hid (L.length = n) := hn
 rw [hn] at hlc HX HCC c4 hw0
 rw [List.length_map, hn] at HTX
 rw [hn]
 have HBO : Hid (allB 255 [va, na, atr, po] = true → bof [va, na, atr, po] = strOfNums [va, na, atr, po]) := fun h => bof_ok h
 generalize bof [va, na, atr, po] = BO at *
 generalize allB 255 [va, na, atr, po] = okh at *
 clear hfs hb0 hC0 hn
 go_enter Tryz.func33, Tryz.ntmps33
 go_wp2_with fail
 refine (HO1.out _).mono ?_
 rintro e W ⟨rfl, hbW⟩
 have HBW : Hid (Below w0.heap.size w0 W) := hbW
 have HBW' : Hid (Below w.heap.size w W) := bsq HB0.out hbW
 clear hbW c0 c1 c2 c3 c4 HO1
 obtain ⟨⟨c0, c1, c2, c3, c4⟩, _⟩ := HX.out W HBW.out
 cases okh
 ·rw [Bool.and_false, if_pos rfl] at HCC
  have hz1 := HCC.out
  subst hz1
  have HF : Hid (WT = ⟨#[]⟩) := by have := HWT.out; rw [if_neg (by decide)] at this; exact this
  go_wp2
  go_ret2
  rw [HF.out]
  exact ⟨rfl, HBW'.out⟩
 by_cases hva : va = 0
 ·have e0 : (va == 0) = true := by simpa using hva
  rw [e0, if_pos (by rfl)] at HCC
  have hz1 := HCC.out
  subst hz1
  have HF : Hid (WT = ⟨#[]⟩) := by have := HWT.out; rw [if_neg (by decide)] at this; exact this
  clear hva
  go_wp2
  go_ret2
  rw [HF.out]
  exact ⟨rfl, HBW'.out⟩
 have e0 : (va == 0) = false := by simpa using hva
 rw [e0, if_neg (by simp)] at HCC
 clear hva
 by_cases hn4 : 4 < n
 ·rw [if_pos hn4] at HCC
  have hz1 := HCC.out
  subst hz1
  have HF : Hid (WT = ⟨#[]⟩) := by have := HWT.out; rw [if_neg (by decide)] at this; exact this
  go_wp2
  go_ret2
  rw [HF.out]
  exact ⟨rfl, HBW'.out⟩
 rw [if_neg hn4] at HCC
 have hBO := HBO.out rfl
 subst hBO
 have sBO : (strOfNums [va, na, atr, po]).size = 4 := str_size _
 generalize strOfNums [va, na, atr, po] = BO at *
 obtain ⟨Fz, hFz⟩ : ∃ Fz, facesL 0 (L.map Prod.fst) = Fz := ⟨_, rfl⟩
 rw [hFz] at HTX HCO
 have HFz : Hid (facesL 0 (L.map Prod.fst) = Fz) := hFz
 clear hFz HBO
 go_wp2
 go_loopw [6, 7, 47] (fun av rv i wr => ∃ (k : Nat) (ah : List En) (A : List Int), k ≤ n ∧ i = .int .i64 (k : Int) ∧ rv = .string (strOfNums A) ∧ A.length ≤ 101 * k ∧ ah.length ≤ 4 * k ∧ Eds wr W.heap.size av ah ∧ Below W.heap.size W wr ∧ Hid (A ++ facesL (k : Int) ((L.drop k).map Prod.fst) = Fz ∧ chkFs (ah.map wayOf) ((L.drop k).map Prod.fst) = z)) (fun _ _ i _ => n - (intOf i).toNat)
 case atStart => exact ⟨0, [], [], Nat.zero_le _, rfl, rfl, by simp, by simp, Eds.nil _ _, Below.refl _ _, by rw [List.nil_append]; exact HFz.out, HCC.out.symm⟩
 case round =>
  obtain ⟨k, ah, A, hk, rfl, rfl, hAl, hahl, hEd, hbr, HR⟩ := hrel
  obtain ⟨wo, rfl⟩ : ∃ wo, wo = wr := ⟨_, rfl⟩
  have HBr : Hid (Below w0.heap.size w0 wo) := bsq HBW.out hbr
  have hAs := str_size A
  by_cases hlt : k < n
  ·have hk1 : k < L.length := by have := HN.out; omega
   obtain ⟨q, hq⟩ : ∃ q, L[k]? = some q := ⟨L[k], List.getElem?_eq_getElem hk1⟩
   obtain ⟨⟨_, _, _, _, _⟩, hRL⟩ := HX.out wo HBr.out
   obtain ⟨g, off, rfl, d0, d1, d2, d3, d4, d5⟩ := hRL.at k q hq
   have hRq := hRL.all q (List.mem_of_getElem? hq)
   have hst := chkFs_step (tk := ah.map wayOf) hq
   have hR := HR.out
   rw [hst, facesL_at L k q hq] at hR
   have HSZ : Hid (chkF (ah.map wayOf) q.1 = 0 → FOk q.1) := fun h => chkF_ok h
   obtain ⟨f, ve, vd⟩ := q
   simp only at *
   obtain ⟨w1, hw1⟩ : ∃ w1, wo.alloc (.cells #[.int .i64 f.cl, .int .i64 f.su, .int .i64 f.pr, .int .i64 f.nm, ve, vd] 74) = w1 := ⟨_, rfl⟩
   have hb1 : Below wo.heap.size wo w1 := by rw [← hw1]; exact balloc _ _
   have hF1 : w1.heap[wo.heap.size]? = some (.cells #[.int .i64 f.cl, .int .i64 f.su, .int .i64 f.pr, .int .i64 f.nm, ve, vd] 74) := by rw [← hw1]; exact (MapKept.heap_alloc wo _).1
   obtain ⟨x0, x1, x2, x3, x4, x5⟩ := box6r hF1
   have HF1 : Hid (w1.heap[wo.heap.size]? = some (.cells #[.int .i64 f.cl, .int .i64 f.su, .int .i64 f.pr, .int .i64 f.nm, ve, vd] 74)) := hF1
   have hE1 : Eds w1 W.heap.size u6 ah := own_below hEd hb1
   have HE1 : Hid (Eds w1 W.heap.size u6 ah) := hE1
   have HFE : Hid (Calls Tryz.prog 70 #[fcV f ve vd, u6] w1 fun e w' => e = .returned (.int .i64 (chkF (ah.map wayOf) f)) ∧ Below w1.heap.size w1 w') := faceError_any (f, ve, vd) u6 ah w1 (hRq.below hb1) hE1.rns (by omega)
   have HB1 : Hid (Below W.heap.size W w1) := bsq hbr hb1
   have HRq : Hid (∀ u, Below W.heap.size W u → Rf u (f, ve, vd)) := fun u hu => ((HX.out u (bsq HBW.out hu)).2).all _ (List.mem_of_getElem? hq)
   obtain ⟨aa, ca, rfl, _, hca⟩ := own_form hEd
   obtain ⟨ve1, ve2, ve3, rfl⟩ : ∃ a n c, ve = .slice a n c := by obtain ⟨a, c, h, _⟩ := hRq.ex; exact ⟨_, _, _, h⟩
   obtain ⟨vd1, vd3, hvd, hvdc, hvdm, _⟩ := hRq.en.cell
   simp only at hvd
   subst hvd
   obtain ⟨na', hna⟩ : ∃ m, ah.length = m := ⟨_, rfl⟩
   obtain ⟨nE, hnE⟩ : ∃ m, f.en.length = m := ⟨_, rfl⟩
   have HNA : Hid (ah.length = na') := hna
   have HNE : Hid (f.en.length = nE) := hnE
   rw [hna] at HE1 HFE
   rw [hnE] at HFE HF1 hw1 x5 d5 HRq
   rw [hna]
   rw [hna] at hahl
   have hck : ∀ zz, chkF (ah.map wayOf) f = zz → zz = 0 ∨ (zz ≠ 0 ∧ z = zz ∧ WT = ⟨#[]⟩) := fun zz hzz => by
    rcases Classical.em (zz = 0) with h | h
    ·exact .inl h
    ·right
     rw [hzz, if_neg h] at hR
     refine ⟨h, hR.2.symm, ?_⟩
     have := HWT.out
     rw [if_neg (by rw [← hR.2]; exact h)] at this
     exact this
   obtain ⟨zz, hzz⟩ : ∃ zz, chkF (ah.map wayOf) f = zz := ⟨_, rfl⟩
   have HCK := hck zz hzz
   rw [hzz] at HFE HSZ hR
   clear hck hzz hb1 hF1 hE1 hEd hbr hRq hRL hst hk1 HR hna hnE
   rcases HCK with rfl | ⟨hzn, hzz2, hwt⟩
   ·have HOK : Hid (FOk f) := HSZ.out rfl
    rw [if_pos rfl] at hR
    have HR : Hid _ := hR
    clear hR HSZ
    go_wp2_with fail
    refine HFE.out.mono ?_
    rintro e w2 ⟨rfl, hb2⟩
    have HE2 : Hid (Eds w2 W.heap.size (.slice aa na' ca) ah) := own_below HE1.out hb2
    have HF2 : Hid (w2.heap[wo.heap.size]? = some (.cells #[.int .i64 f.cl, .int .i64 f.su, .int .i64 f.pr, .int .i64 f.nm, .slice ve1 ve2 ve3, .slice vd1 nE vd3] 74)) := res_below HF1.out hb2
    have HB2 : Hid (Below W.heap.size W w2) := bsq HB1.out hb2
    clear hb2 HFE HE1 HF1 HB1 x0 x1 x2 x3 x4 x5
    obtain ⟨x0, x1, x2, x3, x4, x5⟩ := box6r HF2.out
    have hnE4 : nE ≤ 4 := by have := HOK.out.enl; have := HNE.out; omega
    go_wp2_with
     (at_builtin
      refine wpList_eds _ rfl _ _ rfl W.heap.size _ ah rfl HE2.out _ f.en rfl (HRq.out _ HB2.out).en (by have := HNA.out; have := HNE.out; omega) HB2.out.size ?_
      intro v3 w3 q1 q2 q3
      have t1 : Hid (Eds w3 W.heap.size v3 (ah ++ f.en)) := q1
      have t2 : Hid (Below W.heap.size W w3) := HB2.out.trans q3
      have t3 : Hid (w3.heap[wo.heap.size]? = some (.cells #[.int .i64 f.cl, .int .i64 f.su, .int .i64 f.pr, .int .i64 f.nm, .slice ve1 ve2 ve3, .slice vd1 nE vd3] 74)) := box_grow HE2.out HF2.out (by decide) q2
      obtain ⟨y0, y1, y2, y3, y4, y5⟩ := box6r t3.out
      clear q1 q2 q3 x0 x1 x2 x3 x4 x5)
    have HOF : Hid (∀ u : World, Calls Tryz.prog 41 #[.slice (some ⟨u.heap.size, 0, none⟩) 9 9] (u.alloc (.cells #[.int .i64 9, .int .i64 4, .int .i64 (k : Int), .int .i64 0, .int .i64 (nE : Int), .int .i64 f.cl, .int .i64 f.su, .int .i64 f.pr, .int .i64 f.nm] 3)) fun e w' => e = .returned (.tuple #[.string (strOfNums (faceH (k : Int) f)), .bool true]) ∧ Below u.heap.size u w') := fun u => by
     have h1 := faceH_all k f (by omega) HOK.out
     have h2 : faceH (k : Int) f = [9, 4, (k : Int), 0, (nE : Int), f.cl, f.su, f.pr, f.nm] := by unfold faceH; rw [HNE.out]
     have h3 := bytesOf_any _ [9, 4, (k : Int), 0, (nE : Int), f.cl, f.su, f.pr, f.nm] _ (Rig.new u [9, 4, (k : Int), 0, (nE : Int), f.cl, f.su, f.pr, f.nm] 3 (by simp [maxLen])) (by simp)
     have h1' : allB 255 [9, 4, (k : Int), 0, (nE : Int), f.cl, f.su, f.pr, f.nm] = true := by rw [← h2]; exact h1
     have h4 : strOfNums [9, 4, (k : Int), 0, (nE : Int), f.cl, f.su, f.pr, f.nm] = strOfNums (faceH (k : Int) f) := by rw [h2]
     rw [h1', bof_ok h1', h4] at h3
     exact h3.mono fun e w' h => ⟨h.1, bsq (balloc u _) h.2⟩
    have hfl := faceL_len HOK.out (k : Int)
    have hfx : (faceL (k : Int) f).length = 9 + (f.ex.flatten.length + (f.en.flatMap endL).length) := by rw [faceL, List.length_append, List.length_append]; rfl
    have HJ : Hid (∀ u, Below W.heap.size W u → Calls Tryz.prog 71 #[.slice ve1 ve2 ve3, .string ⟨#[]⟩] u fun e w' => e = .returned (.string (strOfNums f.ex.flatten)) ∧ Below u.heap.size u w') := fun u hu => join_any _ f.ex u (HRq.out u hu).ex (by omega) (by have := HOK.out.exl; omega)
    have s1 : (strOfNums (faceH (k : Int) f)).size = 9 := str_size _
    have s2 : (strOfNums f.ex.flatten).size ≤ 101 := by rw [str_size]; omega
    have HST : Hid (strOfNums A ++ (strOfNums (faceH (k : Int) f) ++ strOfNums f.ex.flatten) = strOfNums (A ++ (faceH (k : Int) f ++ f.ex.flatten))) := by show _ = _; rw [str_append, str_append]
    have HFL : Hid (A ++ (faceH (k : Int) f ++ f.ex.flatten) ++ f.en.flatMap endL = A ++ faceL (k : Int) f) := by show _ = _; rw [faceL]; simp
    have HLE : Hid ((faceL (k : Int) f).length ≤ 101) := hfl
    obtain ⟨FH, hFH⟩ : ∃ t, strOfNums (faceH (k : Int) f) = t := ⟨_, rfl⟩
    obtain ⟨JX, hJX⟩ : ∃ t, strOfNums f.ex.flatten = t := ⟨_, rfl⟩
    rw [hFH] at HOF s1
    rw [hJX] at HJ s2
    rw [hFH, hJX] at HST
    clear hFH hJX hfl hfx HE2 HF2 HB2
    go_wp2_with fail
    refine (HOF.out _).mono ?_
    rintro e w4 ⟨rfl, hb4⟩
    have HF4 : Hid (w4.heap[wo.heap.size]? = some (.cells #[.int .i64 f.cl, .int .i64 f.su, .int .i64 f.pr, .int .i64 f.nm, .slice ve1 ve2 ve3, .slice vd1 nE vd3] 74)) := res_below t3.out hb4
    have HB4 : Hid (Below w3.heap.size w3 w4) := hb4
    clear hb4 y0 y1 y2 y3 y4 y5
    obtain ⟨y0, y1, y2, y3, y4, y5⟩ := box6r HF4.out
    go_wp2_with fail
    refine (HJ.out w4 (bsq t2.out HB4.out)).mono ?_
    rintro e w5 ⟨rfl, hb5⟩
    have HF5 : Hid (w5.heap[wo.heap.size]? = some (.cells #[.int .i64 f.cl, .int .i64 f.su, .int .i64 f.pr, .int .i64 f.nm, .slice ve1 ve2 ve3, .slice vd1 nE vd3] 74)) := res_below HF4.out hb5
    have HB5 : Hid (Below w3.heap.size w3 w5) := bsq HB4.out hb5
    clear hb5 y0 y1 y2 y3 y4 y5 HF4 HB4
    obtain ⟨y0, y1, y2, y3, y4, y5⟩ := box6r HF5.out
    have HEN : Hid (∀ u, Below w5.heap.size w5 u → Rns u (.slice vd1 nE vd3) f.en) := fun u hu => (HRq.out u (bsq (bsq t2.out HB5.out) hu)).en
    go_wp2
    go_loopw [7, 89] (fun rv i wr => ∃ (j : Nat) (A2 : List Int), j ≤ nE ∧ i = .int .i64 (j : Int) ∧ rv = .string (strOfNums A2) ∧ Below w5.heap.size w5 wr ∧ Hid (A2 ++ (f.en.drop j).flatMap endL = A ++ faceL (k : Int) f)) (fun _ i _ => nE - (intOf i).toNat)
    case atStart => exact ⟨0, A ++ (faceH (k : Int) f ++ f.ex.flatten), Nat.zero_le _, rfl, by rw [HST.out], Below.refl _ _, HFL⟩
    case round =>
     obtain ⟨j, A2, hj, rfl, rfl, hbr, HR2⟩ := hrel
     have hA2s := str_size A2
     have hA2l : A2.length ≤ A.length + 101 := by
      have h1 := congrArg List.length HR2.out
      rw [List.length_append, List.length_append] at h1
      have := HLE.out
      omega
     by_cases hlt2 : j < nE
     ·have hj1 : j < f.en.length := by have := HNE.out; omega
      obtain ⟨x, hx⟩ : ∃ x, f.en[j]? = some x := ⟨_, List.getElem?_eq_getElem hj1⟩
      obtain ⟨g5, off5, rfl, d0, d1, d2, d3, d4⟩ := (HEN.out wr hbr).at j x hx
      have hxo := HOK.out.en x (List.mem_of_getElem? hx)
      obtain ⟨hr1, hr2⟩ := endR_is hxo
      obtain ⟨⟨a1, a2⟩, _⟩ := (endOk_iff x).1 hxo
      have HOE : Hid (∀ u : World, Calls Tryz.prog 41 #[.slice (some ⟨u.heap.size, 0, none⟩) 7 7] (u.alloc (.cells #[.int .i64 7, .int .i64 5, .int .i64 (if x.inw = true then x.ad + 128 else x.ad), .int .i64 x.kd, .int .i64 x.mx, .int .i64 0, .int .i64 x.iv] 3)) fun e w' => e = .returned (.tuple #[.string (strOfNums (endL x)), .bool true]) ∧ Below u.heap.size u w') := fun u => by
       have h1' : allB 255 [7, 5, if x.inw = true then x.ad + 128 else x.ad, x.kd, x.mx, 0, x.iv] = true := hr2
       have h4 : strOfNums [7, 5, if x.inw = true then x.ad + 128 else x.ad, x.kd, x.mx, 0, x.iv] = strOfNums (endL x) := by rw [← hr1]; rfl
       have h3 := bytesOf_any _ [7, 5, if x.inw = true then x.ad + 128 else x.ad, x.kd, x.mx, 0, x.iv] _ (Rig.new u [7, 5, if x.inw = true then x.ad + 128 else x.ad, x.kd, x.mx, 0, x.iv] 3 (by simp [maxLen])) (by simp)
       rw [h1', bof_ok h1', h4] at h3
       exact h3.mono fun e w' h => ⟨h.1, bsq (balloc u _) h.2⟩
      have HH : Hid ((A2 ++ endL x) ++ (f.en.drop (j + 1)).flatMap endL = A ++ faceL (k : Int) f) := by
       have h1 := HR2.out
       rw [List.drop_eq_getElem_cons hj1, (List.getElem?_eq_some_iff.1 hx).2, List.flatMap_cons, ← List.append_assoc] at h1
       exact h1
      obtain ⟨w6, hw6⟩ : ∃ w6, wr.alloc (evO x) = w6 := ⟨_, rfl⟩
      have hb6 : Below wr.heap.size wr w6 := by rw [← hw6]; exact balloc _ _
      obtain ⟨hzx, x0, x1, x2, x3, x4⟩ := evB (evC x hw6)
      have HB6 : Hid (Below w5.heap.size w5 w6) := bsq hbr hb6
      have s3 : (strOfNums (endL x)).size = 7 := str_size _
      have HSA : Hid (strOfNums A2 ++ strOfNums (endL x) = strOfNums (A2 ++ endL x)) := (str_append _ _).symm
      obtain ⟨TX, hTX⟩ : ∃ t, strOfNums (endL x) = t := ⟨_, rfl⟩
      rw [hTX] at HOE s3 HSA
      have HEX : Hid (∃ X, X = endL x ∧ True) := ⟨_, rfl, trivial⟩
      obtain ⟨X, hX⟩ : ∃ X, endL x = X := ⟨_, rfl⟩
      rw [hX] at HH HSA
      clear hTX hX HEX hb6 hbr hx hj1 hxo hr1 hr2 HR2
      obtain ⟨xad, xinw, xkd, xmx, xiv⟩ := x
      simp only at *
      cases xinw
      ·simp only [if_neg (show ¬ (false = true) by decide)] at HOE
       go_wp2_with fail
       refine (HOE.out _).mono ?_
       rintro e w7 ⟨rfl, hb7⟩
       have HB7 : Hid (Below w5.heap.size w5 w7) := bsq HB6.out hb7
       clear hb7
       go_wp2
       go_roundw
       case rel => exact ⟨j + 1, A2 ++ X, by omega, by go_num, by rw [HSA.out], HB7.out, HH⟩
       case measure => simp [intOf]; omega
      ·simp only [if_pos (show true = true by decide)] at HOE
       go_wp2_with fail
       refine (HOE.out _).mono ?_
       rintro e w7 ⟨rfl, hb7⟩
       have HB7 : Hid (Below w5.heap.size w5 w7) := bsq HB6.out hb7
       clear hb7
       go_wp2
       go_roundw
       case rel => exact ⟨j + 1, A2 ++ X, by omega, by go_num, by rw [HSA.out], HB7.out, HH⟩
       case measure => simp [intOf]; omega
     ·have hfin : A2 = A ++ faceL (k : Int) f := by
       have h1 := HR2.out
       rw [List.drop_eq_nil_of_le (by have := HNE.out; omega), List.flatMap_nil, List.append_nil] at h1
       exact h1
      have HA2 : Hid (A2.length ≤ 101 * (k + 1)) := by show _ ≤ _; omega
      have HBq : Hid (Below w3.heap.size w3 wr) := bsq HB5.out hbr
      have HRn : Hid (A2 ++ facesL ((k + 1 : Nat) : Int) ((L.drop (k + 1)).map Prod.fst) = Fz ∧ chkFs ((ah ++ f.en).map wayOf) ((L.drop (k + 1)).map Prod.fst) = z) := by
       obtain ⟨h1, h2⟩ := HR.out
       refine ⟨?_, ?_⟩
       ·rw [hfin, List.append_assoc]; exact h1
       ·rw [List.map_append]; exact h2
      clear hfin HR2 hbr
      go_wp2
      go_roundw
      case rel => exact ⟨k + 1, ah ++ f.en, A2, by omega, by go_num, rfl, HA2.out, by rw [List.length_append, HNA.out, HNE.out]; omega, own_below t1.out HBq.out, bsq t2.out HBq.out, HRn⟩
      case measure => simp [intOf]; omega
   ·subst hzz2
    have hzb : (z != 0) = true := by simpa using hzn
    have HF : Hid (WT = ⟨#[]⟩) := hwt
    clear hwt hzn hR HSZ
    go_wp2_with fail
    refine HFE.out.mono ?_
    rintro e w2 ⟨rfl, hb2⟩
    have HB2 : Hid (Below w.heap.size w w2) := bsq HBW'.out (bsq HB1.out hb2)
    clear hb2
    go_wp2
    go_ret2
    rw [HF.out]
    exact ⟨rfl, HB2.out⟩
  ·have hAF : A = Fz ∧ 0 = z := by
    have hR := HR.out
    rw [List.drop_eq_nil_of_le (by have := HN.out; omega), List.map_nil, facesL, chkFs, List.append_nil] at hR
    exact hR
   obtain ⟨hA1, rfl⟩ := hAF
   have HF : Hid (WT = strOfNums (confL ⟨va, na, atr, po, L.map Prod.fst⟩)) := by have := HWT.out; rw [if_pos rfl] at this; exact this
   have hFl := (HCO.out rfl).1
   have HNB : Hid (∀ u : World, Calls Tryz.prog 41 #[.slice (some ⟨u.heap.size, 0, none⟩) 1 1] (u.alloc (.cells #[.int .i64 (n : Int)] 3)) fun e w' => e = .returned (.tuple #[.string (strOfNums [(n : Int)]), .bool true]) ∧ Below u.heap.size u w') := fun u => by
    have h1 : allB 255 [(n : Int)] = true := by simp [allB, inB]; omega
    have := HON.out n u
    rw [bof_ok h1, h1] at this
    exact this
   have hAi : (Fz.length : Int) = ((strOfNums A).size : Int) := by rw [hAs, hA1]
   have HTX2 : Hid _ := HTX.out
   rw [hAi] at HTX2
   rw [← hA1] at HTX2
   have HTB2 : Hid (∀ u : World, Calls Tryz.prog 69 #[.int .i64 (9 + ((strOfNums A).size : Int))] u fun e w' => e = .returned (.string (strOfNums (wrd (9 + ((strOfNums A).size : Int))))) ∧ Below u.heap.size u w') := fun u => HTB.out _ u (by omega) (by omega)
   have s1 : (strOfNums [(n : Int)]).size = 1 := str_size _
   have s2 : (strOfNums (wrd (9 + ((strOfNums A).size : Int)))).size = 2 := str_size _
   have s3 : (strOfNums A).size ≤ 404 := by omega
   clear hAi hAs hAl hahl hFl hA1
   generalize strOfNums (wrd (9 + ((strOfNums A).size : Int))) = T2 at *
   generalize strOfNums [(n : Int)] = T1 at *
   generalize strOfNums A = TA at *
   obtain ⟨⟨c0', c1', c2', c3', c4'⟩, _⟩ := HX.out wo HBr.out
   have HBo : Hid (Below w.heap.size w wo) := bsq HBW'.out hbr
   clear hbr HR HX HCO HTB HON HTX hEd
   go_wp2_with fail
   refine (HNB.out _).mono ?_
   rintro e w2 ⟨rfl, hb2⟩
   have HB2 : Hid (Below w.heap.size w w2) := bsq HBo.out hb2
   clear hb2
   go_wp2_with fail
   refine (HTB2.out _).mono ?_
   rintro e w3 ⟨rfl, hb3⟩
   have HB3 : Hid (Below w.heap.size w w3) := bsq HB2.out hb3
   clear hb3
   go_wp2
   go_ret2
   rw [HF.out, ← HTX2.out]
   exact ⟨rfl, HB3.out⟩
end Go.Proofs.YtonheibhbilhhaaGreat.desc
