/- plugref's gadget: what Sheet answers. -/
import Derived.Test.YtonheibhbilhhaaGreatZAl
import Derived.Test.YtonheibhbilhhaaGreatZBa
import Derived.Test.YtonheibhbilhhaaGreatZBg
import Derived.Deep.Cut
namespace Go.Proofs.YtonheibhbilhhaaGreat.gadget
open Go.RowKit Go.PlainAid Go.Proofs.YtonheibhbilhhaaGreat.lane Go.Proofs.YtonheibhbilhhaaGreat.desc
open Go.Proofs.YtonheibhbilhhaaGreat.utf (werr)
set_option linter.unusedVariables false
set_option linter.unusedSimpArgs false
theorem infoN : (Tryz.prog.info? 3).map (fun i => (i.zero, i.size, i.bytes)) = some (some (.int .i64 0), 1, 8) := by kernel_rfl
def Nms (w : World) (B : Nat) (v : Value) (us : List Int) : Prop := w.ownsRow B 3 1 v us.length (us.map (Value.int .i64))
theorem wpList_nms {ops : Array Oper} {rest : List Oper} {o : Oper} {a : Act} {Q : Exit → Act → World → Prop} (w : World) (hgd : o.guard = none) (s x : Operand)
  (ho : o.op = .call { callee := .builtin .append, args := #[s, x], argTypes := #[30, 30] }) (B : Nat) (v : Value) (us : List Int) (hs : a.eval s = v) (h : Nms w B v us)
  (g c : Nat) (z : Int) (hx : a.eval x = .slice (some ⟨g, 0, none⟩) 1 c) (hc : w.cell? ⟨g, 0, none⟩ = some (.int .i64 z)) (hl : us.length ≤ 1000000) (hB : B ≤ w.heap.size)
  (hK : ∀ v' w', Nms w' B v' (us ++ [z]) → w.grownBy w' v.ownBlock → Below B w w' → wpList Tryz.prog ops Q rest (a.put o.dst v') w') : wpList Tryz.prog ops Q (o :: rest) a w := by
 obtain ⟨i0, hi, hz0, hz1, hz2⟩ := info_parts infoN
 refine wpList_append_own w hgd s x 30 ho B 3 i0 _ 1 8 Tryz.underlying30 hi hz0 hz1 hz2 rfl (by omega) v us.length (us.map (Value.int .i64)) hs h ⟨g, 0, none⟩ 1 c [.int .i64 z] hx rfl ?_ (by simp [Value.oneCell']) (by unfold maxLen; omega) (by omega) hB ?_
 ·intro j u hj
  match j, hj with
  | 0, hj => simp at hj; subst hj; simpa [Addr.add] using hc
  | (j + 1), hj => simp at hj
 ·intro v' w' h1 h2 _
  refine hK v' w' ?_ h2 ((Below.refl _ _).grown h2 hB (own_block h))
  unfold Nms
  rw [List.length_append, List.map_append]
  exact h1
theorem Nms.new (w : World) (us : List Int) (hm : us.length ≤ maxLen) : Nms (w.alloc (.cells (us.map (Value.int .i64)).toArray 3)) w.heap.size (.slice (some ⟨w.heap.size, 0, none⟩) us.length us.length) us := by
 have := World.ownsRow_lit (base := w.heap.size) (e := 3) (size := 1) w (us.map (Value.int .i64)).toArray us.length (Nat.le_refl _) hm (by simp)
 unfold Nms
 simpa using this
theorem Nms.at {w : World} {B : Nat} {a : Option Addr} {n c : Nat} {us : List Int} (h : Nms w B (.slice a n c) us) : n = us.length ∧ n ≤ c ∧ c ≤ maxLen ∧ ∀ j x, us[j]? = some x → ∃ g off, a = some ⟨g, off, none⟩ ∧ w.cell? ⟨g, off + j, none⟩ = some (.int .i64 x) := by
 obtain ⟨a', c', e, h1, h2, h3, h4⟩ := Rdg.of h
 injection e with e1 e2 e3
 subst e1 e2 e3
 refine ⟨rfl, h1, h2, fun j x hx => ?_⟩
 have hj := (List.getElem?_eq_some_iff.1 hx).1
 obtain ⟨g, off, ha, hg, hc⟩ := h4 (by omega)
 exact ⟨g, off, ha, hc j _ (by simp [hx])⟩
theorem abv_at {n : Int} {l : List Int} {k : Nat} {x : Int} (h : l[k]? = some x) : abv n (l.drop k) = (decide (n < x) || abv n (l.drop (k + 1))) := by
 obtain ⟨hk, he⟩ := List.getElem?_eq_some_iff.1 h
 rw [List.drop_eq_getElem_cons hk, he]
 rfl
end Go.Proofs.YtonheibhbilhhaaGreat.gadget
namespace Go.Proofs.YtonheibhbilhhaaGreat.gadget
open Go.RowKit Go.PlainAid Go.Proofs.YtonheibhbilhhaaGreat.lane Go.Proofs.YtonheibhbilhhaaGreat.desc
open Go.Proofs.YtonheibhbilhhaaGreat.utf (werr)
set_option linter.unusedVariables false
set_option linter.unusedSimpArgs false
set_option maxRecDepth 100000 in
set_option maxHeartbeats 16000000 in
theorem rsheet_any (d : Dv) (c : Cf) (L : FL) (v : Value) (T : List (List Int)) (tv : Value) (w : World) (h : Shr w c L v T tv) (hbig : ∀ t ∈ T, t.length ≤ 17000000000000) :
  Calls Tryz.prog 12 #[shV d c v tv] w fun e w' => e = .returned (.int .i64 (chkS d c T)) ∧ Below w.heap.size w w' := by
 have HD : Hid (∀ u : World, Calls Tryz.prog 32 #[dvV d] u fun e w' => e = .returned (.tuple #[.string (wdT d), .int .i64 (wdC d)]) ∧ Below u.heap.size u w') := deviceText_any d
 have HC : Hid (∀ u : World, Below w.heap.size w u → Calls Tryz.prog 33 #[cfV c v] u fun e w' => e = .returned (.tuple #[.string (wcT c), .int .i64 (chkC c)]) ∧ Below u.heap.size u w') := fun u hu => configText_any c v L u (h.rc.below hu)
 have HT : Hid (∀ t ∈ T, ∀ u : World, Calls Tryz.prog 34 #[.string (strOfNums t)] u fun e w' => e = .returned (.tuple #[.string (dtxt (strOfNums t)), .int .i64 (werr (strOfNums t))]) ∧ Below u.heap.size u w') := fun t ht u => rtextText_any _ u (by rw [str_size]; exact hbig t ht)
 have HX : Hid (∀ u : World, Below w.heap.size w u → Rts u tv T) := fun u hu => h.tx.below hu
 obtain ⟨w0, hw0, hS, hb0⟩ := ShC.named w d c v tv
 obtain ⟨fa, fn, fcap, rfl⟩ : ∃ a n c, v = .slice a n c := by obtain ⟨a, c, h, _⟩ := h.rc.fs.row; exact ⟨_, _, _, h⟩
 obtain ⟨a, n, cap, rfl⟩ : ∃ a n c, tv = .slice a n c := by obtain ⟨a, c, h, _⟩ := h.tx; exact ⟨_, _, _, h⟩
 obtain ⟨hn, hnc, hcm⟩ : n = T.length ∧ n ≤ cap ∧ cap ≤ maxLen := by obtain ⟨a', c', e, h1, h2, _⟩ := h.tx; injection e with e1 e2 e3; subst e2 e3; exact ⟨rfl, h1, h2⟩
 obtain ⟨hfn, hfc, hfm⟩ : fn = L.length ∧ fn ≤ fcap ∧ fcap ≤ maxLen := by obtain ⟨a', c', e, h1, h2, _⟩ := h.rc.fs.row; injection e with e1 e2 e3; subst e2 e3; exact ⟨rfl, h1, h2⟩
 have HFA : Hid (∀ u, Below w0.heap.size w0 u → ∀ j q, L[j]? = some q → ∃ g off, fa = some ⟨g, off, none⟩ ∧ u.cell? ⟨g, off + j * 6, none⟩ = some (.int .i64 q.1.cl) ∧ u.cell? ⟨g, off + j * 6 + 1, none⟩ = some (.int .i64 q.1.su) ∧ u.cell? ⟨g, off + j * 6 + 2, none⟩ = some (.int .i64 q.1.pr) ∧ u.cell? ⟨g, off + j * 6 + 3, none⟩ = some (.int .i64 q.1.nm) ∧ u.cell? ⟨g, off + j * 6 + 4, none⟩ = some q.2.1 ∧ u.cell? ⟨g, off + j * 6 + 5, none⟩ = some q.2.2) :=
  fun u hu => Rfs.at' (h.rc.fs.below (bsq hb0 hu))
 have HFF : Hid (∀ q ∈ L, (∃ a n c, q.2.1 = .slice a n c) ∧ ∃ a n c, q.2.2 = .slice a n c) := fun q hq => by
  obtain ⟨a1, c1, e1, _⟩ := (h.rc.fs.all q hq).ex
  obtain ⟨a2, c2, e2, _⟩ := (h.rc.fs.all q hq).en
  exact ⟨⟨_, _, _, e1⟩, ⟨_, _, _, e2⟩⟩
 have HS : Hid (∀ u : World, Below w0.heap.size w0 u → ShC u w.heap.size d c (.slice fa fn fcap) (.slice a n cap)) := fun u hu => ShC.of (keep hS hu)
 have HB0 : Hid (Below w.heap.size w w0) := hb0
 have HNM : Hid (nms d c = [d.ma, d.nm, d.se, c.na] ++ L.map fun q => q.1.nm) := by show _ = _; unfold nms; rw [← h.rc.eq, List.map_map]; rfl
 have HCL : Hid (chkC c = 0 → L.length ≤ 4) := fun z => by have := (chkC_ok z).len; rw [← h.rc.eq, List.length_map] at this; exact this
 unfold maxLen at hcm hfm
 have HN : Hid (n = T.length) := hn
 have HFN : Hid (fn = L.length) := hfn
 obtain ⟨R, hR⟩ : ∃ R, chkS d c T = R := ⟨_, rfl⟩
 have HR0 : Hid (chkS d c T = R) := hR
 rw [hR]
 clear h hb0 hS hR hn hfn hbig
 obtain ⟨_, c0, c1, c2, c3, c4, c5, c6, c7, c8, c9, c10, c11, _, _, _, _, _, _⟩ := HS.out w0 (Below.refl _ _)
 go_enter Tryz.func12, Tryz.ntmps12
 go_upto_region 1 with (fail)
 go_cut [0, 3, 4] from 16 (fun _ tw cv wx => tw = .string (wdT d) ∧ cv = .int .i64 (wdC d) ∧ Hid (Below w0.heap.size w0 wx))
 case first =>
  go_wp2_with fail
  refine (HD.out _).mono ?_
  rintro e wa ⟨rfl, hb⟩
  go_wp2_with fail
  go_meet
  case rel => exact ⟨rfl, rfl, hb⟩
 case rest =>
 obtain ⟨rfl, rfl, HBa⟩ := hcut
 clear HD c0 c1 c2 c3 c4 c5 c6 c7 c8 c9 c10 c11
 by_cases h1 : ¬ wdC d = 0
 ·have e1 : (wdC d != 0) = true := by simpa using h1
  have HE : Hid (wdC d = R) := (chk_0 h1).trans HR0.out
  generalize wdC d = z at *
  clear h1 HR0 HC HT HX HS HFA HFF
  go_wp2
  go_ret
  exact ⟨ret_i HE.out, bsq HB0.out HBa.out⟩
 have h1 : wdC d = 0 := by omega
 have H1 : Hid (wdC d = 0) := h1
 have e1 : (wdC d != 0) = false := by simpa using h1
 rename World => wa
 obtain ⟨_, _, _, _, _, _, _, _, _, _, _, _, c11, c12, c13, c14, c15, c16, _⟩ := HS.out wa HBa.out
 clear h1
 by_cases h2 : ¬ d.cf = 1
 ·have e2 : (d.cf != 1) = true := by simpa using h2
  have HE : Hid (4 = R) := (chk_1 H1.out h2).trans HR0.out
  clear h2 HC HT HX HS HR0 HFA HFF c12 c13 c14 c15 c16
  go_wp2
  go_ret
  exact ⟨ret_i HE.out, bsq HB0.out HBa.out⟩
 have h2 : d.cf = 1 := by omega
 have H2 : Hid (d.cf = 1) := h2
 have e2 : (d.cf != 1) = false := by simpa using h2
 have HC1 : Hid (Calls Tryz.prog 33 #[cfV c (.slice fa fn fcap)] wa fun e w' => e = .returned (.tuple #[.string (wcT c), .int .i64 (chkC c)]) ∧ Below wa.heap.size wa w') := HC.out wa (bsq HB0.out HBa.out)
 clear h2 HC
 go_upto_region 6 with (fail)
 go_cut [5, 6] from 16 (fun tw cv wx => tw = .string (wcT c) ∧ cv = .int .i64 (chkC c) ∧ Hid (Below w0.heap.size w0 wx))
 case first =>
  go_wp2_with fail
  refine HC1.out.mono ?_
  rintro e wb ⟨rfl, hb⟩
  go_wp2_with fail
  go_meet
  case rel => exact ⟨rfl, rfl, bsq HBa.out hb⟩
 case rest =>
 obtain ⟨rfl, rfl, HBb⟩ := hcut
 clear HC1 c11 c12 c13 c14 c15 c16 e1 e2 HBa
 by_cases h3 : ¬ chkC c = 0
 ·have e3 : (chkC c != 0) = true := by simpa using h3
  have HE : Hid (chkC c = R) := (chk_2 H1.out H2.out h3).trans HR0.out
  generalize chkC c = z at *
  clear h3 HR0 HT HX HS HFA HFF HCL
  go_wp2
  go_ret
  exact ⟨ret_i HE.out, bsq HB0.out HBb.out⟩
 have h3 : chkC c = 0 := by omega
 have H3 : Hid (chkC c = 0) := h3
 have e3 : (chkC c != 0) = false := by simpa using h3
 have hL4 : L.length ≤ 4 := HCL.out h3
 have hf4 : fn ≤ 4 := by have := HFN.out; omega
 rename World => wb
 obtain ⟨_, _, _, _, _, _, _, _, _, _, _, _, _, _, _, _, _, _, c17⟩ := HS.out wb HBb.out
 clear h3 HCL
 by_cases h4 : 8 < n
 ·have HE : Hid (2 = R) := (chk_3 H1.out H2.out H3.out (by have := HN.out; omega)).trans HR0.out
  clear HT HX HS HR0 HFA HFF
  go_wp2
  go_ret
  exact ⟨ret_i HE.out, bsq HB0.out HBb.out⟩
 have H4 : Hid (¬ 8 < T.length) := by show ¬ _; have := HN.out; omega
 have HAT : Hid (∀ u : World, Below w0.heap.size w0 u → ∀ j p, T[j]? = some p → ∃ g off, a = some ⟨g, off, none⟩ ∧ u.cell? ⟨g, off + j, none⟩ = some (.string (strOfNums p))) := fun u hu => Rts.at' (HX.out u (bsq HB0.out hu))
 obtain ⟨tE, htE⟩ : ∃ x, txE T = x := ⟨_, rfl⟩
 have HE : Hid (txE (T.drop 0) = tE) := htE
 have HR4 : Hid (¬ tE = 0 → tE = R) := fun q => by rw [← htE] at q ⊢; exact (chk_4 H1.out H2.out H3.out H4.out q).trans HR0.out
 have HR5 : Hid (tE = 0 → (if abv (n : Int) (nms d c) = true then 12 else 0) = R) := fun q => by
  rw [← htE] at q
  have := (chk_5 H1.out H2.out H3.out H4.out q).trans HR0.out
  rw [← HN.out] at this
  exact this
 clear htE HX HR0 H1 H2 H3 H4
 go_wp2
 clear c17
 go_loopw [45] (fun i wr => ∃ k : Nat, k ≤ n ∧ i = .int .i64 (k : Int) ∧ Below w0.heap.size w0 wr ∧ Hid (txE (T.drop k) = tE)) (fun i _ => n - (intOf i).toNat)
 case atStart => exact ⟨0, Nat.zero_le _, rfl, HBb.out, HE.out⟩
 case round =>
  obtain ⟨k, hk, rfl, hbr, HR⟩ := hrel
  by_cases hlt : k < n
  ·have hk1 : k < T.length := by have := HN.out; omega
   obtain ⟨p, hp⟩ : ∃ p, T[k]? = some p := ⟨T[k], List.getElem?_eq_getElem hk1⟩
   obtain ⟨g, off, rfl, k0⟩ := HAT.out wr hbr k p hp
   have hR := HR.out
   rw [txE_at hp] at hR
   have HW : Hid (Calls Tryz.prog 34 #[.string (strOfNums p)] wr fun e w' => e = .returned (.tuple #[.string (dtxt (strOfNums p)), .int .i64 (werr (strOfNums p))]) ∧ Below wr.heap.size wr w') := HT.out p (List.mem_of_getElem? hp) wr
   have HBr : Hid (Below w0.heap.size w0 wr) := hbr
   generalize strOfNums p = P at *
   by_cases h5 : werr P = 0
   ·rw [if_pos h5] at hR
    rw [h5] at HW
    have HR2 : Hid (txE (T.drop (k + 1)) = tE) := hR
    clear HT HS HAT HR hR hp hbr h5 HBb HR4 HR5 HFA HFF
    go_wp2_with fail
    refine HW.out.mono ?_
    rintro e u ⟨rfl, hb⟩
    have HBu : Hid (Below w0.heap.size w0 u) := bsq HBr.out hb
    clear hb HW
    go_wp2
    go_roundw
    case rel => exact ⟨k + 1, by omega, by go_num, HBu.out, HR2⟩
    case measure => simp [intOf]; omega
   ·rw [if_neg h5] at hR
    have e5 : (werr P != 0) = true := by simpa using h5
    have HR2 : Hid (werr P = R) := hR.trans (HR4.out (by rw [← hR]; exact h5))
    generalize werr P = z at *
    clear HT HS HAT HR hR hp hbr h5 HBb HR4 HR5 HFA HFF
    go_wp2_with fail
    refine HW.out.mono ?_
    rintro e u ⟨rfl, hb⟩
    have HBu : Hid (Below w0.heap.size w0 u) := bsq HBr.out hb
    clear hb HW
    go_wp2
    go_ret
    exact ⟨ret_i HR2.out, bsq HB0.out HBu.out⟩
  ·have hR := HR.out
   rw [List.drop_eq_nil_of_le (by have := HN.out; omega), txE] at hR
   have HR6 : Hid ((if abv (n : Int) (nms d c) = true then 12 else 0) = R) := HR5.out hR.symm
   have HBr : Hid (Below w0.heap.size w0 wr) := hbr
   obtain ⟨_, _, _, _, _, _, _, _, _, c8, c9, c10, _, _, c13, _, _, c16, _⟩ := HS.out wr hbr
   obtain ⟨w4, hw4⟩ : ∃ w4, wr.alloc (.cells #[.int .i64 d.ma, .int .i64 d.nm, .int .i64 d.se, .int .i64 c.na] 3) = w4 := ⟨_, rfl⟩
   have HM4 : Hid (Nms w4 wr.heap.size (.slice (some ⟨wr.heap.size, 0, none⟩) 4 4) [d.ma, d.nm, d.se, c.na]) := by show Nms _ _ _ _; rw [← hw4]; exact Nms.new wr [d.ma, d.nm, d.se, c.na] (by simp [maxLen])
   have hb4 : Below wr.heap.size wr w4 := by rw [← hw4]; exact balloc _ _
   have HB4 : Hid (Below wr.heap.size wr w4) := hb4
   have k16 : w4.cell? ⟨w.heap.size, 16, none⟩ = some (.slice fa fn fcap) := (HS.out w4 (bsq hbr hb4)).c16
   clear hR HT HAT HR hbr HBb HR4 HR5 HE hb4
   obtain ⟨wz, hwz⟩ : ∃ wz, wz = wr := ⟨_, rfl⟩
   subst hwz
   go_wp2
   clear c8 c9 c10 c13 c16 k16
   have HST : Hid ([d.ma, d.nm, d.se, c.na] ++ (L.drop 0).map (fun q => q.1.nm) = nms d c) := HNM.out.symm
   go_loopw [11, 75] (fun nv i wr => ∃ (k : Nat) (us : List Int), k ≤ fn ∧ us.length = 4 + k ∧ i = .int .i64 (k : Int) ∧ Nms wr wz.heap.size nv us ∧ Below wz.heap.size wz wr ∧ Hid (us ++ (L.drop k).map (fun q => q.1.nm) = nms d c)) (fun _ i _ => fn - (intOf i).toNat)
   case atStart => exact ⟨0, _, Nat.zero_le _, rfl, rfl, HM4.out, HB4.out, HST.out⟩
   case round =>
    obtain ⟨k, us, hk, hul, rfl, hX, hbr, HR⟩ := hrel
    have hzs : wz.heap.size ≤ wr.heap.size := hbr.size
    by_cases hlt2 : k < fn
    ·have hk1 : k < L.length := by have := HFN.out; omega
     obtain ⟨q, hq⟩ : ∃ q, L[k]? = some q := ⟨L[k], List.getElem?_eq_getElem hk1⟩
     obtain ⟨g, off, rfl, k0, k1, k2, k3, k4, k5⟩ := HFA.out wr (bsq HBr.out hbr) k q hq
     obtain ⟨⟨ve1, ve2, ve3, hve⟩, ⟨vd1, vd2, vd3, hvd⟩⟩ := HFF.out q (List.mem_of_getElem? hq)
     have hR := HR.out
     rw [List.drop_eq_getElem_cons hk1, show L[k] = q by rw [List.getElem?_eq_getElem hk1] at hq; injection hq, List.map_cons, List.append_cons] at hR
     have HH2 : Hid ((us ++ [q.1.nm]) ++ (L.drop (k + 1)).map (fun q => q.1.nm) = nms d c) := hR
     obtain ⟨w3, hw3⟩ : ∃ w3, wr.alloc (.cells #[.int .i64 q.1.cl, .int .i64 q.1.su, .int .i64 q.1.pr, .int .i64 q.1.nm, q.2.1, q.2.2] 74) = w3 := ⟨_, rfl⟩
     have hb3 : Below wr.heap.size wr w3 := by rw [← hw3]; exact balloc _ _
     have HX3 : Hid (Nms w3 wz.heap.size u11 us) := by show Nms _ _ _ _; rw [← hw3]; exact World.ownsRow.alloc hX _
     have HB3 : Hid (Below wz.heap.size wz w3) := hbr.trans (hb3.mono hzs)
     have hz3 : wz.heap.size ≤ w3.heap.size := Nat.le_trans hzs hb3.size
     obtain ⟨e0, e1, e2, e3, e4, e5⟩ := box6 (show w3.heap[wr.heap.size]? = some (.cells #[.int .i64 q.1.cl, .int .i64 q.1.su, .int .i64 q.1.pr, .int .i64 q.1.nm, q.2.1, q.2.2] 74) by rw [← hw3]; exact (MapKept.heap_alloc wr _).1)
     obtain ⟨⟨cl, su, pr, nm, ex, en⟩, ve, vd⟩ := q
     simp only at *
     subst hve hvd
     have hul6 : us.length ≤ 1000000 := by omega
     clear HFA HFF HR hR hq hbr hb3 hX e0 e1 e2 e4 e5 HS HM4 HST HR6
     go_wp2_with (at_builtin; (refine wpList_nms _ rfl _ _ rfl wz.heap.size _ us rfl (World.ownsRow.alloc HX3.out _) w3.heap.size 1 nm rfl (by simp) hul6 (by simp; omega) ?_))
     intro v5 w5 h5 hg5 hb5
     have HX5 : Hid (Nms w5 wz.heap.size v5 (us ++ [nm])) := h5
     have HB5 : Hid (Below wz.heap.size wz w5) := (HB3.out.alloc hz3 _).trans hb5
     clear h5 hg5 hb5 HX3 HB3
     go_wp2
     go_roundw
     case rel => exact ⟨k + 1, us ++ [nm], by omega, by rw [List.length_append, hul]; simp; omega, by go_num, HX5.out, HB5.out, HH2⟩
     case measure => simp [intOf]; omega
    ·have hR := HR.out
     rw [List.drop_eq_nil_of_le (by have := HFN.out; omega), List.map_nil, List.append_nil] at hR
     have HBq : Hid (Below w0.heap.size w0 wr) := bsq HBr.out hbr
     have c17 := (HS.out wr HBq.out).c17
     obtain ⟨na, nn, nc, rfl⟩ : ∃ a n c, u11 = .slice a n c := by obtain ⟨a, c, e, _⟩ := Rdg.of hX; exact ⟨_, _, _, e⟩
     obtain ⟨m1, m2, m3, m4⟩ := Nms.at hX
     rw [hR] at m1 m4
     have HA4 : Hid (∀ j x, (nms d c)[j]? = some x → ∃ g off, na = some ⟨g, off, none⟩ ∧ wr.cell? ⟨g, off + j, none⟩ = some (.int .i64 x)) := m4
     have HNN : Hid (nn = (nms d c).length) := m1
     have hnn : nn ≤ 8 := by have h8 := hul; rw [hR] at h8; omega
     obtain ⟨AB, hAB⟩ : ∃ x, abv (n : Int) (nms d c) = x := ⟨_, rfl⟩
     have HAB : Hid (abv (n : Int) ((nms d c).drop 0) = AB) := hAB
     rw [hAB] at HR6
     unfold maxLen at m3
     clear HFA HFF HR hR hbr hX HM4 HST m1 m4 hAB HS
     obtain ⟨wy, hwy⟩ : ∃ wy, wy = wr := ⟨_, rfl⟩
     subst hwy
     go_wp2
     go_loopw [87] (fun i wr => ∃ k : Nat, k ≤ nn ∧ i = .int .i64 (k : Int) ∧ wr = wy ∧ Hid (abv (n : Int) ((nms d c).drop k) = AB)) (fun i _ => nn - (intOf i).toNat)
     case atStart => exact ⟨0, Nat.zero_le _, rfl, rfl, HAB.out⟩
     case round =>
      obtain ⟨j, hj, rfl, rfl, HRj⟩ := hrel
      by_cases hlt3 : j < nn
      ·have hj1 : j < (nms d c).length := by have := HNN.out; omega
       obtain ⟨x, hx⟩ : ∃ x, (nms d c)[j]? = some x := ⟨(nms d c)[j], List.getElem?_eq_getElem hj1⟩
       obtain ⟨g, off, rfl, k0⟩ := HA4.out j x hx
       have hR := HRj.out
       rw [abv_at hx] at hR
       by_cases hgt : (n : Int) < x
       ·rw [decide_eq_true hgt, Bool.true_or] at hR
        have HE : Hid (12 = R) := by have h := HR6.out; rw [← hR, if_pos rfl] at h; exact h
        clear HA4 HRj hR hx HR6
        go_wp2
        go_ret
        exact ⟨ret_i HE.out, bsq HB0.out HBq.out⟩
       ·rw [decide_eq_false hgt, Bool.false_or] at hR
        have HE : Hid (abv (n : Int) ((nms d c).drop (j + 1)) = AB) := hR
        clear HA4 HRj hR hx HR6
        go_wp2
        go_roundw
        case rel => exact ⟨j + 1, by omega, by go_num, by trivial, HE⟩
        case measure => simp [intOf]; omega
      ·have hR := HRj.out
       rw [List.drop_eq_nil_of_le (by have := HNN.out; omega)] at hR
       have HE : Hid (0 = R) := by have h := HR6.out; rw [← hR, if_neg (show ¬ abv (n : Int) [] = true by simp [abv])] at h; exact h
       clear HA4 HRj hR HR6
       go_wp2
       go_ret
       exact ⟨ret_i HE.out, bsq HB0.out HBq.out⟩
end Go.Proofs.YtonheibhbilhhaaGreat.gadget
