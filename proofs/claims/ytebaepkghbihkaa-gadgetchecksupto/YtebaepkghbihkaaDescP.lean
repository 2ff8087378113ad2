/- desc: what appendFace answers. -/
import Derived.Test.YtebaepkghbihkaaDescL
namespace Go.Proofs.Ytebaepkghbihkaa.desc
open Go.RowKit Go.PlainAid Go.Proofs.Ytebaepkghbihkaa.lane
set_option linter.unusedVariables false

theorem drop_flat (ex : List (List Int)) (k : Nat) (x : List Int) (h : ex[k]? = some x) : (ex.drop k).flatten = x ++ (ex.drop (k + 1)).flatten := by
  obtain ⟨hk, he⟩ := List.getElem?_eq_some_iff.1 h
  rw [List.drop_eq_getElem_cons hk, he, List.flatten_cons]
theorem drop_ends (en : List En) (k : Nat) (e : En) (h : en[k]? = some e) : (en.drop k).flatMap endL = endL e ++ (en.drop (k + 1)).flatMap endL := by
  obtain ⟨hk, he⟩ := List.getElem?_eq_some_iff.1 h
  rw [List.drop_eq_getElem_cons hk, he, List.flatMap_cons]
set_option maxRecDepth 100000 in
set_option maxHeartbeats 4000000 in
theorem appendFace_any (B : Nat) (v : Value) (acc : List Int) (n : Nat) (q : Fc × Value × Value) (w : World) (hn : n ≤ 255) (hok : FOk q.1) (h : Bys w B v acc) (hB : B ≤ w.heap.size) (hl : acc.length ≤ 100000) (hR : ∀ u, Below B w u → Rf u q) :
    Calls Try.prog 53 #[v, .int .i64 (n : Int), fcV q.1 q.2.1 q.2.2] w fun r w' => ∃ v', r = .returned v' ∧ Bys w' B v' (acc ++ faceL n q.1) ∧ Below B w w' := by
  obtain ⟨⟨cl, su, pr, nm, ex, en⟩, ve, vd⟩ := q
  obtain ⟨⟨⟨h1, h1'⟩, ⟨h2, h2'⟩, ⟨h3, h3'⟩, h4, h4'⟩, hxl, hxo, hnl, hno⟩ := hok
  simp only at *
  have hX0 : Rts w ve ex := (hR w (Below.refl _ _)).ex
  have hN0 : Rns w vd en := (hR w (Below.refl _ _)).en
  obtain ⟨ax, cx, rfl, hlx, hcx, _⟩ := hX0.cell
  obtain ⟨an, cn, rfl, hln, hcn, _⟩ := hN0.cell
  have HCX : Hid (∀ u, Below B w u → ∀ j p, ex[j]? = some p → ∃ g off, ax = some ⟨g, off, none⟩ ∧ u.cell? ⟨g, off + j, none⟩ = some (.string (strOfNums p))) := by
    intro u hu
    have hq : Rts u (.slice ax ex.length cx) ex := (hR u hu).ex
    obtain ⟨a', c', he, _, _, hc⟩ := hq.cell
    injection he with e1 e2 e3
    subst e1
    exact hc
  have HCN : Hid (∀ u, Below B w u → ∀ j e, en[j]? = some e → ∃ g off, an = some ⟨g, off, none⟩ ∧ u.cell? ⟨g, off + j * 5, none⟩ = some (.int .i64 e.ad) ∧ u.cell? ⟨g, off + j * 5 + 1, none⟩ = some (.bool e.inw) ∧ u.cell? ⟨g, off + j * 5 + 2, none⟩ = some (.int .i64 e.kd) ∧ u.cell? ⟨g, off + j * 5 + 3, none⟩ = some (.int .i64 e.mx) ∧ u.cell? ⟨g, off + j * 5 + 4, none⟩ = some (.int .i64 e.iv)) := by
    intro u hu
    have hq : Rns u (.slice an en.length cn) en := (hR u hu).en
    obtain ⟨a', c', he, _, _, hc⟩ := hq.cell
    injection he with e1 e2 e3
    subst e1
    exact hc
  have HBX : Hid (∀ x ∈ ex, Byt x ∧ x.length ≤ 32) := fun x hx => ⟨(hR w (Below.refl _ _)).bb x hx, ((exOk_iff x).1 (hxo x hx)).1.2⟩
  have HNO : Hid (∀ e ∈ en, endOk e = true) := hno
  obtain ⟨nx, hnx⟩ : ∃ n, ex.length = n := ⟨_, rfl⟩
  obtain ⟨nd, hnd⟩ : ∃ n, en.length = n := ⟨_, rfl⟩
  have HNX : Hid (ex.length = nx) := hnx
  have HND : Hid (en.length = nd) := hnd
  have HFL : Hid (acc ++ faceL n ⟨cl, su, pr, nm, ex, en⟩ = acc ++ [9, 4, (n : Int), 0, (nd : Int)] ++ [cl, su, pr, nm] ++ (ex.flatten ++ en.flatMap endL)) := by
    show _ = _
    rw [← hnd]; simp [faceL, faceH]
  rw [hnx] at hlx hxl ⊢
  rw [hnd] at hln hnl ⊢
  obtain ⟨w0, hw0⟩ : ∃ w0, w.alloc (.cells #[.int .i64 cl, .int .i64 su, .int .i64 pr, .int .i64 nm, .slice ax nx cx, .slice an nd cn] 64) = w0 := ⟨_, rfl⟩
  have hb0 : Below w.heap.size w w0 := by rw [← hw0]; exact balloc _ _
  have hx0 : w0.heap[w.heap.size]? = some (.cells #[.int .i64 cl, .int .i64 su, .int .i64 pr, .int .i64 nm, .slice ax nx cx, .slice an nd cn] 64) := by rw [← hw0]; exact (MapKept.heap_alloc w _).1
  obtain ⟨c0, c1, c2, c3, c4, c5⟩ := box6 hx0
  have HX0 : Hid (Bys w0 B v acc) := Bys.below h hb0
  have HH0 : Hid (w0.heap[w.heap.size]? = some (.cells #[.int .i64 cl, .int .i64 su, .int .i64 pr, .int .i64 nm, .slice ax nx cx, .slice an nd cn] 64)) := hx0
  have HB0 : Hid (Below B w w0) := hb0.mono hB
  have hz0 : B ≤ w0.heap.size := Nat.le_trans hB hb0.size
  unfold maxLen at hcx hcn
  clear h hb0 hx0 hR hnx hnd hxo hno hX0 hN0
  go_enter Try.func53, Try.ntmps53
  go_wp2_with (at_builtin; (refine wpList_bys _ rfl _ _ rfl B _ acc rfl (World.ownsRow.alloc HX0.out _) w0.heap.size 5 5 [9, 4, (n : Int), 0, (nd : Int)] rfl rfl (bys_new w0 [9, 4, (n : Int), 0, (nd : Int)] _) (by omega) (by omega) (by simp; omega) ?_))
  intro v1 wa q1 hg1 hb1
  have HX1 : Hid (Bys wa B v1 (acc ++ [9, 4, (n : Int), 0, (nd : Int)])) := q1
  have HB1 : Hid (Below B w wa) := (HB0.out.alloc hz0 _).trans hb1
  have hkb : Kb w0 wa := (Kb.alloc w0 _).trans (Kb.grown (World.ownsRow.alloc HX0.out _) hg1)
  have HK1 : Hid (Kb w0 wa) := hkb
  clear c0 c1 c2 c3 c4 c5
  obtain ⟨c0, c1, c2, c3, c4, c5⟩ := box6 (hkb.box HH0.out (by decide))
  have hz1 : B ≤ wa.heap.size := by have := HB1.out.size; omega
  clear q1 hg1 hb1 hkb HX0
  go_wp2_with (at_builtin; (refine wpList_bys _ rfl _ _ rfl B _ (acc ++ [9, 4, (n : Int), 0, (nd : Int)]) rfl (World.ownsRow.alloc HX1.out _) wa.heap.size 4 4 [cl, su, pr, nm] rfl rfl (bys_new wa [cl, su, pr, nm] _) (by rw [List.length_append]; simp; omega) (by omega) (by simp; omega) ?_))
  intro v2 wb q1 hg1 hb1
  have e := HFL.out
  obtain ⟨Hd, hHd⟩ : ∃ Hd, acc ++ [9, 4, (n : Int), 0, (nd : Int)] ++ [cl, su, pr, nm] = Hd := ⟨_, rfl⟩
  have q2 : Bys wb B v2 Hd := by rw [← hHd]; simpa using q1
  rw [hHd] at e
  have hHl : Hd.length = acc.length + 9 := by rw [← hHd, List.length_append, List.length_append]; rfl
  have HF2 : Hid (acc ++ faceL n ⟨cl, su, pr, nm, ex, en⟩ = Hd ++ (ex.flatten ++ en.flatMap endL)) := e
  have HX2 : Hid (Bys wb B v2 Hd) := q2
  have HB2 : Hid (Below B w wb) := (HB1.out.alloc hz1 _).trans hb1
  have hkb : Kb w0 wb := HK1.out.trans ((Kb.alloc wa _).trans (Kb.grown (World.ownsRow.alloc HX1.out _) hg1))
  have HK2 : Hid (Kb w0 wb) := hkb
  clear c0 c1 c2 c3 c4 c5
  obtain ⟨c0, c1, c2, c3, c4, c5⟩ := box6 (hkb.box HH0.out (by decide))
  clear q1 q2 hg1 hb1 hkb HX1 HB1 HK1 HFL e hHd
  go_wp2
  go_loopw [0, 38] (fun tv i wr => ∃ (k : Nat) (A : List Int), k ≤ nx ∧ i = .int .i64 (k : Int) ∧ A.length ≤ acc.length + 9 + 32 * k ∧ Bys wr B tv A ∧ Below B w wr ∧ Kb w0 wr ∧ Hid (A ++ (ex.drop k).flatten = Hd ++ ex.flatten)) (fun _ i _ => nx - (intOf i).toNat)
  case atStart => exact ⟨0, Hd, Nat.zero_le _, rfl, by omega, HX2.out, HB2.out, HK2.out, rfl⟩
  case round =>
    obtain ⟨k, A, hk, rfl, hAl, hX, hbr, hkr, HR⟩ := hrel
    have HXr : Hid (Bys wr B u0 A) := hX
    have HBr : Hid (Below B w wr) := hbr
    have HKr : Hid (Kb w0 wr) := hkr
    have hzr : B ≤ wr.heap.size := by have := hbr.size; omega
    by_cases hlt : k < nx
    · have hk1 : k < ex.length := by have := HNX.out; omega
      obtain ⟨x, hx⟩ : ∃ x, ex[k]? = some x := ⟨ex[k], List.getElem?_eq_getElem hk1⟩
      obtain ⟨g, off, rfl, d1⟩ := HCX.out wr hbr k x hx
      obtain ⟨hxb, hxm⟩ := HBX.out x (List.mem_of_getElem? hx)
      have hR := HR.out
      rw [drop_flat ex k x hx, ← List.append_assoc] at hR
      have HH : Hid (A ++ x ++ (ex.drop (k + 1)).flatten = Hd ++ ex.flatten) := hR
      have hns := nums_str x hxb
      have hsz := str_size x
      obtain ⟨t, ht⟩ : ∃ t, strOfNums x = t := ⟨_, rfl⟩
      rw [ht] at d1 hns hsz
      have HNS : Hid (nums t = x) := hns
      clear HCX HCN HBX HNO HR hR hx hX hbr hkr ht hns hxb
      go_wp2_with (at_builtin; (refine wpList_bstr _ rfl _ _ rfl B _ A rfl HXr.out t rfl (by omega) (by omega) hzr ?_))
      intro v3 wc q1 hb1 hkb
      have HX3 : Hid (Bys wc B v3 (A ++ x)) := by show Bys _ _ _ _; rw [← HNS.out]; exact q1
      have HB3 : Hid (Below B w wc) := HBr.out.trans hb1
      have HK3 : Hid (Kb w0 wc) := HKr.out.trans hkb
      clear q1 hb1 hkb HXr HBr HKr
      go_wp2
      go_roundw
      case rel => exact ⟨k + 1, A ++ x, by omega, by go_num, by rw [List.length_append]; omega, HX3.out, HB3.out, HK3.out, HH⟩
      case measure => simp [intOf]; omega
    · have hR := HR.out
      rw [List.drop_eq_nil_of_le (by have := HNX.out; omega), List.flatten_nil, List.append_nil] at hR
      have hF := HF2.out
      rw [← List.append_assoc, ← hR] at hF
      have HF3 : Hid (acc ++ faceL n ⟨cl, su, pr, nm, ex, en⟩ = A ++ en.flatMap endL) := hF
      clear c0 c1 c2 c3 c4 c5
      obtain ⟨c0, c1, c2, c3, c4, c5⟩ := box6 (hkr.box HH0.out (by decide))
      clear HR hR hF HF2 hX hbr hkr HCX HBX HX2 HB2 HK2
      rename World => wo
      go_wp2
      go_loopw [0, 49] (fun tv i wr => ∃ (k : Nat) (C : List Int), k ≤ nd ∧ i = .int .i64 (k : Int) ∧ C.length ≤ acc.length + 9 + 32 * nx + 7 * k ∧ Bys wr B tv C ∧ Below B w wr ∧ Hid (C ++ (en.drop k).flatMap endL = A ++ en.flatMap endL)) (fun _ i _ => nd - (intOf i).toNat)
      case atStart => exact ⟨0, A, Nat.zero_le _, rfl, by omega, HXr.out, HBr.out, rfl⟩
      case round =>
        obtain ⟨j, C, hj, rfl, hCl, hX, hbr, HR⟩ := hrel
        have hzq : B ≤ wr.heap.size := by have := hbr.size; omega
        by_cases hlt : j < nd
        · have hj1 : j < en.length := by have := HND.out; omega
          obtain ⟨e, he⟩ : ∃ e, en[j]? = some e := ⟨en[j], List.getElem?_eq_getElem hj1⟩
          obtain ⟨g, off, rfl, d0, d1, d2, d3, d4⟩ := HCN.out wr hbr j e he
          have heo := HNO.out e (List.mem_of_getElem? he)
          have hR := HR.out
          rw [drop_ends en j e he, ← List.append_assoc] at hR
          have HH : Hid (C ++ endL e ++ (en.drop (j + 1)).flatMap endL = A ++ en.flatMap endL) := hR
          obtain ⟨w2, hw2⟩ : ∃ w2, wr.alloc (.cells #[.int .i64 e.ad, .bool e.inw, .int .i64 e.kd, .int .i64 e.mx, .int .i64 e.iv] 86) = w2 := ⟨_, rfl⟩
          have hb2 : Below wr.heap.size wr w2 := by rw [← hw2]; exact balloc _ _
          obtain ⟨e0, e1, e2, e3, e4⟩ := box5 (show w2.heap[wr.heap.size]? = some (.cells #[.int .i64 e.ad, .bool e.inw, .int .i64 e.kd, .int .i64 e.mx, .int .i64 e.iv] 86) by rw [← hw2]; exact (MapKept.heap_alloc wr _).1)
          have HAE : Hid (Calls Try.prog 78 #[u0, evV e] w2 fun r w' => ∃ v', r = .returned v' ∧ Bys w' B v' (C ++ endL e) ∧ Below B w2 w' ∧ Kb w2 w') :=
            appendEnd_any B u0 C e w2 heo (Bys.below hX hb2) (Nat.le_trans hzq hb2.size) (by omega)
          have HB2 : Hid (Below B w w2) := hbr.trans (hb2.mono hzq)
          have hel := endL_length e
          obtain ⟨EL, hEL⟩ : ∃ EL, endL e = EL := ⟨_, rfl⟩
          rw [hEL] at HAE HH hel
          obtain ⟨ad, inw, kd, mx, iv⟩ := e
          simp only at *
          clear HCN HNO HR hR he hX hbr hb2 heo hEL
          go_wp2_with fail
          refine HAE.out.mono ?_
          rintro r w3 ⟨v3, rfl, q1, q2, _⟩
          have HX3 : Hid (Bys w3 B v3 (C ++ EL)) := q1
          have HB3 : Hid (Below B w w3) := HB2.out.trans q2
          clear q1 q2 HAE HB2
          go_wp2
          go_roundw
          case rel => exact ⟨j + 1, C ++ EL, by omega, by go_num, by rw [List.length_append]; omega, HX3.out, HB3.out, HH⟩
          case measure => simp [intOf]; omega
        · have hR := HR.out
          rw [List.drop_eq_nil_of_le (by have := HND.out; omega), List.flatMap_nil, List.append_nil] at hR
          have HXq : Hid (Bys wr B u0 (acc ++ faceL n ⟨cl, su, pr, nm, ex, en⟩)) := by show Bys _ _ _ _; rw [HF3.out, ← hR]; exact hX
          have HBq : Hid (Below B w wr) := hbr
          clear HCN HNO HR hR hX hbr
          go_wp2
          go_ret
          exact ⟨_, rfl, HXq.out, HBq.out⟩
end Go.Proofs.Ytebaepkghbihkaa.desc
