/- scsi: Do. -/
import Derived.Test.YtecknicmonhcaabDoorScsH
namespace Go.Proofs.YtecknicmonhcaabDoor.scsi
open Go.RowKit Go.PlainAid Go.Proofs.YtecknicmonhcaabDoor.lane Go.Proofs.YtecknicmonhcaabDoor.pipe Go.Proofs.YtecknicmonhcaabDoor.strike
set_option linter.unusedVariables false
set_option linter.unusedSimpArgs false
set_option maxRecDepth 100000

/-- what Do answers: a disk whose blocks are its own -/
def DoP (w : World) (d : Dk) (c x : ByteArray) (e : Ending) (w' : World) : Prop :=
  ∃ v, e = .returned (.tuple #[dkV v (doD d c x).s, .string (doT d c x), .int .i64 (doC d c x)]) ∧ Txs w' w.heap.size v (doD d c x).b ∧ Below w.heap.size w w'
theorem txs_setX {w : World} {B : Nat} {v : Value} {l : List ByteArray} (h : Txs w B v l) {X : Nat} (hX : X < B) (k : Nat) (x : Value) : Txs (w.setCell ⟨X, k, none⟩ x) B v l :=
  ownsRow_setCell_other h (fun q => by have := own_block h X q; omega) _
theorem txs_mono {w : World} {B B' : Nat} {v : Value} {l : List ByteArray} (h : Txs w B v l) (hB : B' ≤ B) : Txs w B' v l := by
  refine ⟨h.1, ?_⟩
  rcases h.2 with q | ⟨g, cap, cur, hv, hb, r⟩
  · exact .inl q
  · exact .inr ⟨g, cap, cur, hv, by omega, r⟩
theorem txs_some {w : World} {B : Nat} {v : Value} {l : List ByteArray} (h : Txs w B v l) (hn : 0 < l.length) : ∃ g cap, v = .slice (some ⟨g, 0, none⟩) l.length cap := by
  rcases h.2 with ⟨_, q⟩ | ⟨g, cap, cur, hv, _⟩
  · omega
  · exact ⟨g, cap, hv⟩
theorem assert_yes (z : Int) (w : World) : (Instr.typeAssert (.iface 83 (.agg #[.int .i64 z])) 65 83 true).run Tryd.prog w = .ok (.tuple #[.agg #[.int .i64 z], .bool true]) w := by
  simp [Instr.typeAssert, run_underlying Tryd.underlying83, Result.andThen]
theorem assert_no (w : World) : (Instr.typeAssert .nilIface 65 83 true).run Tryd.prog w = .ok (.tuple #[.agg #[.int .i64 0], .bool false]) w := by
  simp [Instr.typeAssert, run_underlying Tryd.underlying83, Result.andThen, Tryd.zeroValue83]
/-- the box of a failure is made; the disk's Sense is set; the result is laid down -/
structure Nm (u2 : World) (X R : Nat) (v : Value) (s0 z s' : Int) (u3 u4 u5 uf : World) : Prop where
  h3 : u2.alloc (.cells #[.int .i64 0] 83) = u3
  h4 : u3.setCell ⟨u2.heap.size, 0, none⟩ (.int .i64 z) = u4
  h5 : u4.setCell ⟨X, 1, none⟩ (.int .i64 s') = u5
  hf : (u5.setCell ⟨R, 0, none⟩ v).setCell ⟨R, 1, none⟩ (.int .i64 s') = uf
  F3 : u3.heap[u2.heap.size]? = some (.cells #[.int .i64 0] 83)
  F4 : u4.heap[u2.heap.size]? = some (.cells #[.int .i64 z] 83)
  X4 : u4.heap[X]? = some (dkO v s0)
  X5 : u5.heap[X]? = some (dkO v s')
  R5 : u5.heap[R]? = some (dkO (.slice none 0 0) 0)
  Rf : uf.heap[R]? = some (dkO v s')
  bel : ∀ (B : Nat) (w : World), B ≤ X → B ≤ R → B ≤ u2.heap.size → Below B w u2 → Below B w uf
  txs : ∀ (B : Nat) (l : List ByteArray), X < B → R < B → Txs u2 B v l → Txs uf B v l
theorem named (u2 : World) (X R : Nat) (v : Value) (s0 z s' : Int) (hX : u2.heap[X]? = some (dkO v s0)) (hR : u2.heap[R]? = some (dkO (.slice none 0 0) 0)) (hne : X ≠ R) : ∃ u3 u4 u5 uf, Nm u2 X R v s0 z s' u3 u4 u5 uf := by
  have hXl := (Array.getElem?_eq_some_iff.1 hX).1
  have hRl := (Array.getElem?_eq_some_iff.1 hR).1
  have F3 := (MapKept.heap_alloc u2 (.cells #[.int .i64 0] 83)).1
  have b3 := balloc u2 (.cells #[.int .i64 0] 83)
  have X3 := keep hX b3
  have R3 := keep hR b3
  refine ⟨_, _, _, _, rfl, rfl, rfl, rfl, F3, csetX 0 _ F3 rfl, ?_, ?_, ?_, ?_, ?_, ?_⟩
  · rw [heap_setCell_other _ _ _ _ (show X ≠ u2.heap.size by omega)]; exact X3
  · refine csetX 1 _ (cs := #[v, .int .i64 s0]) ?_ rfl
    rw [heap_setCell_other _ _ _ _ (show X ≠ u2.heap.size by omega)]; exact X3
  · rw [heap_setCell_other _ _ _ _ (show R ≠ X by omega), heap_setCell_other _ _ _ _ (show R ≠ u2.heap.size by omega)]; exact R3
  · refine csetX 1 _ (csetX 0 _ (cs := #[.slice none 0 0, .int .i64 0]) ?_ rfl) rfl
    rw [heap_setCell_other _ _ _ _ (show R ≠ X by omega), heap_setCell_other _ _ _ _ (show R ≠ u2.heap.size by omega)]; exact R3
  · intro B w h1 h2 h3 hb
    exact (((((hb.trans (b3.mono h3)).setCell h3 _).setCell h1 _).setCell h2 _).setCell h2 _)
  · intro B l h1 h2 ht
    have ht3 := ht.below b3
    have ht4 : Txs ((u2.alloc (.cells #[.int .i64 0] 83)).setCell ⟨u2.heap.size, 0, none⟩ (.int .i64 z)) B v l :=
      ownsRow_setCell_other ht3 (box_ne ht3 F3 (by decide)) _
    exact txs_setX (txs_setX (txs_setX ht4 h1 _ _) h2 _ _) h2 _ _
theorem boxF {u : World} {F : Nat} {z : Int} (h : u.heap[F]? = some (.cells #[.int .i64 z] 83)) : (F < u.heap.size ∧ u.cell? ⟨F, 0, none⟩ = some (.int .i64 z)) ∧ u.frozen? ⟨F, 0, none⟩ = false := by
  refine ⟨⟨(Array.getElem?_eq_some_iff.1 h).1, ?_⟩, frozen_of_row u F 0 _ _ h⟩
  rw [cell_of_row u F _ _ _ (0, 0) h]; rfl
set_option maxHeartbeats 4000000 in
theorem do_any (v : Value) (d : Dk) (c x : ByteArray) (w : World) (h : Rts w v d.b) (hl : d.b.length ≤ 8796093021952) (hcm : c.size ≤ maxLen) (hx : x.size ≤ maxLen) :
    Calls Tryd.prog 18 #[dkV v d.s, .string c, .string x] w fun e w' => DoP w d c x e w' := by
  obtain ⟨va, vc, rfl, _, _⟩ := rts_form h
  obtain ⟨w0, hw0, hX0, hb0⟩ := dk_named w (.slice va d.b.length vc) d.s
  obtain ⟨w1, hw1, hR1, hb1⟩ := dk_named w0 (.slice none 0 0) 0
  have hX1 := keep hX0 hb1
  obtain ⟨⟨hz, x0, x1⟩, f0, f1⟩ := boxD hX1
  have HX1 : Hid (w1.heap[w.heap.size]? = some (dkO (.slice va d.b.length vc) d.s) ∧ w1.heap[w0.heap.size]? = some (dkO (.slice none 0 0) 0) ∧ Below w.heap.size w w1 ∧ w.heap.size < w0.heap.size ∧ w0.heap.size < w1.heap.size) := ⟨hX1, hR1, bsq hb0 hb1, (Array.getElem?_eq_some_iff.1 hX0).1, (Array.getElem?_eq_some_iff.1 hR1).1⟩
  have HR : Hid (Rts w1 (.slice va d.b.length vc) d.b) := h.below (bsq hb0 hb1)
  have HL : Hid (d.b.length ≤ 8796093021952) := hl
  clear h hl hX0 hR1 hb0 hb1 hX1
  unfold DoP
  go_enter Tryd.func18, Tryd.ntmps18
  go_wp2_with
    (at_builtin
     refine wpList_txt _ rfl _ _ rfl w1.heap.size _ [] rfl (Txs.nil _ _) _ d.b rfl HR.out (by have := HL.out; simp; omega) (Nat.le_refl _) ?_
     intro v' w2 q1 q3
     have t1 : Hid (Txs w2 w1.heap.size v' d.b) := q1
     have t2 : Hid (Below w1.heap.size w1 w2) := q3
     obtain ⟨⟨hz2, y0, y1⟩, g0, g1⟩ := boxD (keep HX1.out.1 q3)
     obtain ⟨wa, wc, rfl, _, _⟩ := q1.form
     clear q1 q3)
  obtain ⟨w3, hw3⟩ : ∃ w3, w2.setCell ⟨w.heap.size, 0, none⟩ (.slice wa d.b.length wc) = w3 := ⟨_, rfl⟩
  rw [hw3]
  have HT3 : Hid (Txs w3 w1.heap.size (.slice wa d.b.length wc) d.b ∧ Below w.heap.size w w3 ∧ w3.heap[w.heap.size]? = some (dkO (.slice wa d.b.length wc) d.s) ∧ w3.heap[w0.heap.size]? = some (dkO (.slice none 0 0) 0) ∧ w1.heap.size ≤ w3.heap.size) := by
    have e1 := HX1.out
    refine ⟨?_, ?_, ?_, ?_, ?_⟩
    · rw [← hw3]; exact txs_setX t1.out (by omega) _ _
    · rw [← hw3]; exact ((e1.2.2.1.trans (t2.out.mono (by omega)))).setCell (Nat.le_refl _) _
    · rw [← hw3]; exact csetX 0 _ (keep e1.1 t2.out) rfl
    · rw [← hw3, heap_setCell_other _ _ _ _ (show w0.heap.size ≠ w.heap.size by omega)]; exact keep e1.2.1 t2.out
    · rw [← hw3]; have := t2.out.size; simpa using this
  clear hw3 t1 t2 y0 y1 g0 g1 x0 x1 f0 f1 hz hz2 HR
  refine (check_any _ d.b d.s w3 HT3.out.1.rts).mono ?_
  rintro e u ⟨rfl, hb⟩
  have HT4 : Hid (Txs u w1.heap.size (.slice wa d.b.length wc) d.b ∧ Below w.heap.size w u ∧ u.heap[w.heap.size]? = some (dkO (.slice wa d.b.length wc) d.s) ∧ u.heap[w0.heap.size]? = some (dkO (.slice none 0 0) 0) ∧ w1.heap.size ≤ u.heap.size) :=
    ⟨HT3.out.1.below hb, bsq HT3.out.2.1 hb, keep HT3.out.2.2.1 hb, keep HT3.out.2.2.2.1 hb, Nat.le_trans HT3.out.2.2.2.2 hb.size⟩
  clear hb HT3
  obtain ⟨⟨hz, x0, x1⟩, f0, f1⟩ := boxD HT4.out.2.2.1
  obtain ⟨⟨hz2, y0, y1⟩, g0, g1⟩ := boxD HT4.out.2.2.2.1
  by_cases hch : chkC d ≠ 0
  · have e1 : (chkC d != 0) = true := by rw [bne_iff_ne]; exact hch
    obtain ⟨uf, huf, hXf, hBf, hkf, hsf⟩ := dk_put u w0.heap.size _ _ (.slice wa d.b.length wc) d.s HT4.out.2.2.2.1
    obtain ⟨⟨zf, p0, p1⟩, _⟩ := boxD hXf
    have HDT : Hid (doD d c x = d ∧ doT d c x = ⟨#[]⟩ ∧ doC d c x = chkC d) := ⟨if_pos hch, if_pos hch, if_pos hch⟩
    have HE : Hid (Txs uf w.heap.size (.slice wa d.b.length wc) d.b ∧ Below w.heap.size w uf) := by
      have e1 := HX1.out
      refine ⟨?_, hBf _ _ (by omega) HT4.out.2.1⟩
      rw [← huf]
      exact txs_mono (txs_setX (txs_setX HT4.out.1 (by omega) _ _) (by omega) _ _) (by omega)
    generalize chkC d = q at *
    generalize d.b.length = n at *
    clear hXf hBf hkf hsf hch HT4 HX1
    go_wp2
    try rw [huf]
    exact bodyPost_ret (v := .tuple #[dkV (.slice wa n wc) d.s, .string ⟨#[]⟩, .int .i64 q]) (by simp [results, Tryd.results18, go_sem, zf, p0, p1]) rfl (by rw [HDT.out.1, HDT.out.2.1, HDT.out.2.2]; exact ⟨_, rfl, HE.out⟩)
  have hch : chkC d = 0 := Classical.not_not.1 hch
  obtain ⟨hn1, hn2, h16, hsr⟩ := (chk_iff d).1 hch
  obtain ⟨g, cp, hv⟩ := txs_some HT4.out.1 (by omega)
  injection hv with e1 _ e3
  subst e1 e3
  have HA : Hid (Calls Tryd.prog 35 #[dkV (.slice (some ⟨g, 0, none⟩) d.b.length wc) d.s, .string c, .string x] u fun e w' => MvP w1.heap.size g d.b.length wc d c x u e w') := act_any _ g _ wc d c x u HT4.out.1 HT4.out.2.2.2.2 hn1 hn2 h16 hsr hcm hx
  rw [hch]
  have hD : (doD d c x = if snS d.b.length (nums c) x.size ≠ 0 then ⟨d.b, snS d.b.length (nums c) x.size⟩ else ⟨newB d.b (nums c) x, 0⟩) := by unfold doD; rw [if_neg (by rw [hch]; decide)]
  have hT : (doT d c x = if snS d.b.length (nums c) x.size ≠ 0 then ⟨#[]⟩ else ansT d (nums c)) := by unfold doT; rw [if_neg (by rw [hch]; decide)]
  have hC : (doC d c x = if snS d.b.length (nums c) x.size ≠ 0 then 14 else 0) := by unfold doC; rw [if_neg (by rw [hch]; decide)]
  unfold MvP at HA
  clear hch hn1 hn2 h16 hsr
  obtain ⟨z, hz'⟩ : ∃ z, snS d.b.length (nums c) x.size = z := ⟨_, rfl⟩
  rw [hz'] at HA hD hT hC
  by_cases hz0 : z ≠ 0
  · rw [if_pos hz0] at hD hT hC
    have HDT : Hid (doD d c x = ⟨d.b, z⟩ ∧ doT d c x = ⟨#[]⟩ ∧ doC d c x = 14) := ⟨hD, hT, hC⟩
    rw [if_neg hz0, if_neg hz0, show fmI z = .iface 83 (.agg #[.int .i64 z]) from if_neg hz0] at HA
    generalize hn : d.b.length = n at *
    have HL2 : Hid (d.b.length = n) := hn
    clear hz0 hz' hD hT hC hn
    go_wp2_with fail
    refine HA.out.mono ?_
    rintro e u2 ⟨rfl, h1, h2⟩
    have HT5 : Hid (Txs u2 w1.heap.size (.slice (some ⟨g, 0, none⟩) n wc) d.b ∧ Below w.heap.size w u2 ∧ u2.heap[w.heap.size]? = some (dkO (.slice (some ⟨g, 0, none⟩) n wc) d.s) ∧ u2.heap[w0.heap.size]? = some (dkO (.slice none 0 0) 0) ∧ w1.heap.size ≤ u2.heap.size) := by
      have e1 := HX1.out
      have e4 := HT4.out
      exact ⟨h1, e4.2.1.trans (h2.mono (by omega)), (h2.block _ (by omega)).trans e4.2.2.1, (h2.block _ (by omega)).trans e4.2.2.2.1, Nat.le_trans e4.2.2.2.2 h2.size⟩
    clear h1 h2 HT4 HA x0 x1 f0 f1 hz y0 y1 g0 g1 hz2
    obtain ⟨⟨hz, x0, x1⟩, f0, f1⟩ := boxD HT5.out.2.2.1
    obtain ⟨⟨hz2, y0, y1⟩, g0, g1⟩ := boxD HT5.out.2.2.2.1
    obtain ⟨u3, u4, u5, uf, N⟩ := named u2 w.heap.size w0.heap.size (.slice (some ⟨g, 0, none⟩) n wc) d.s z z HT5.out.2.2.1 HT5.out.2.2.2.1 (by have := HX1.out; omega)
    have HN : Hid (Nm u2 w.heap.size w0.heap.size (.slice (some ⟨g, 0, none⟩) n wc) d.s z z u3 u4 u5 uf) := N
    obtain ⟨n3, n4, n5, nf, _, _, _, _, _, _, _, _⟩ := N
    obtain ⟨⟨a0, a1⟩, a2⟩ := boxF HN.out.F3
    obtain ⟨⟨a3, a4⟩, a5⟩ := boxF HN.out.F4
    obtain ⟨⟨b0, b1, b2⟩, b3, b4⟩ := boxD HN.out.X4
    obtain ⟨⟨c0, c1, c2⟩, c3, c4⟩ := boxD HN.out.X5
    obtain ⟨⟨d0, d1, d2⟩, d3, d4⟩ := boxD HN.out.R5
    obtain ⟨⟨e0, e1, e2⟩, e3, e4⟩ := boxD HN.out.Rf
    clear x0 x1 f0 f1 hz y0 y1 g0 g1 hz2
    have hty := assert_yes z
    go_wp2_with fail
    try rw [nf]
    have HE : Hid (Txs uf w.heap.size (.slice (some ⟨g, 0, none⟩) n wc) d.b ∧ Below w.heap.size w uf) := by
      have q1 := HX1.out
      have q2 := HT5.out.2.2.2.2
      exact ⟨txs_mono (HN.out.txs _ _ (by omega) (by omega) HT5.out.1) (by omega), HN.out.bel _ _ (by omega) (by omega) (by omega) HT5.out.2.1⟩
    exact bodyPost_ret (v := .tuple #[dkV (.slice (some ⟨g, 0, none⟩) n wc) z, .string ⟨#[]⟩, .int .i64 14]) (by simp [results, Tryd.results18, go_sem, e0, e1, e2]) rfl (by rw [HDT.out.1, HDT.out.2.1, HDT.out.2.2]; exact ⟨_, rfl, HE.out⟩)
  · have hz0 : z = 0 := Classical.not_not.1 hz0
    subst hz0
    rw [if_neg (by decide)] at hD hT hC
    have HDT : Hid (doD d c x = ⟨newB d.b (nums c) x, 0⟩ ∧ doT d c x = ansT d (nums c) ∧ doC d c x = 0) := ⟨hD, hT, hC⟩
    rw [if_pos rfl, if_pos rfl, show fmI 0 = .nilIface from rfl] at HA
    generalize hn : d.b.length = n at *
    have HL2 : Hid (d.b.length = n) := hn
    generalize ansT d (nums c) = T at *
    generalize newB d.b (nums c) x = N' at *
    clear hz' hD hT hC hn
    go_wp2_with fail
    refine HA.out.mono ?_
    rintro e u2 ⟨rfl, h1, h2⟩
    have HT5 : Hid (Txs u2 w1.heap.size (.slice (some ⟨g, 0, none⟩) n wc) N' ∧ Below w.heap.size w u2 ∧ u2.heap[w.heap.size]? = some (dkO (.slice (some ⟨g, 0, none⟩) n wc) d.s) ∧ u2.heap[w0.heap.size]? = some (dkO (.slice none 0 0) 0) ∧ w1.heap.size ≤ u2.heap.size) := by
      have e1 := HX1.out
      have e4 := HT4.out
      exact ⟨h1, e4.2.1.trans (h2.mono (by omega)), (h2.block _ (by omega)).trans e4.2.2.1, (h2.block _ (by omega)).trans e4.2.2.2.1, Nat.le_trans e4.2.2.2.2 h2.size⟩
    clear h1 h2 HT4 HA x0 x1 f0 f1 hz y0 y1 g0 g1 hz2
    obtain ⟨⟨hz, x0, x1⟩, f0, f1⟩ := boxD HT5.out.2.2.1
    obtain ⟨⟨hz2, y0, y1⟩, g0, g1⟩ := boxD HT5.out.2.2.2.1
    obtain ⟨u3, u4, u5, uf, N⟩ := named u2 w.heap.size w0.heap.size (.slice (some ⟨g, 0, none⟩) n wc) d.s 0 0 HT5.out.2.2.1 HT5.out.2.2.2.1 (by have := HX1.out; omega)
    have HN : Hid (Nm u2 w.heap.size w0.heap.size (.slice (some ⟨g, 0, none⟩) n wc) d.s 0 0 u3 u4 u5 uf) := N
    obtain ⟨n3, n4, n5, nf, _, _, _, _, _, _, _, _⟩ := N
    obtain ⟨⟨a0, a1⟩, a2⟩ := boxF HN.out.F3
    obtain ⟨⟨a3, a4⟩, a5⟩ := boxF HN.out.F4
    obtain ⟨⟨b0, b1, b2⟩, b3, b4⟩ := boxD HN.out.X4
    obtain ⟨⟨c0, c1, c2⟩, c3, c4⟩ := boxD HN.out.X5
    obtain ⟨⟨d0, d1, d2⟩, d3, d4⟩ := boxD HN.out.R5
    obtain ⟨⟨e0, e1, e2⟩, e3, e4⟩ := boxD HN.out.Rf
    clear x0 x1 f0 f1 hz y0 y1 g0 g1 hz2
    have hty := assert_no
    go_wp2_with fail
    try rw [nf]
    have HE : Hid (Txs uf w.heap.size (.slice (some ⟨g, 0, none⟩) n wc) N' ∧ Below w.heap.size w uf) := by
      have q1 := HX1.out
      have q2 := HT5.out.2.2.2.2
      exact ⟨txs_mono (HN.out.txs _ _ (by omega) (by omega) HT5.out.1) (by omega), HN.out.bel _ _ (by omega) (by omega) (by omega) HT5.out.2.1⟩
    exact bodyPost_ret (v := .tuple #[dkV (.slice (some ⟨g, 0, none⟩) n wc) 0, .string T, .int .i64 0]) (by simp [results, Tryd.results18, go_sem, e0, e1, e2]) rfl (by rw [HDT.out.1, HDT.out.2.1, HDT.out.2.2]; exact ⟨_, rfl, HE.out⟩)
end Go.Proofs.YtecknicmonhcaabDoor.scsi
