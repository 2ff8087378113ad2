/- plugref: slices.SortFunc of nodes by their paths. -/
import Derived.Test.YtemlafdmeaobfaaTopY
import Derived.Test.YtemlafdmeaobfaaShelfS
namespace Go.Proofs.Ytemlafdmeaobfaa.topo
open Go Go.RowKit Go.Sort Go.Lib Go.Proofs.Ytemlafdmeaobfaa.route
set_option linter.unusedVariables false
set_option linter.unusedSimpArgs false
set_option maxRecDepth 100000

/-- a node whose path lies in w0 -/
abbrev Xn (w0 : World) := { q : Value × Nd // Ris w0 q.1 q.2.1 }
def encN {w0 : World} (x : Xn w0) : List Value := ncl x.val.1 x.val.2
def cfN {w0 : World} (x y : Xn w0) : Int := if odr x.val.2.1 y.val.2.1 < 0 then -1 else 1
theorem lt_cfN {w0 : World} (x y : Xn w0) : ltOf cfN x y = decide (odr x.val.2.1 y.val.2.1 < 0) := by
  unfold ltOf cfN
  by_cases h : odr x.val.2.1 y.val.2.1 < 0
  · rw [if_pos h, decide_eq_true h]; rfl
  · rw [if_neg h, decide_eq_false h]; rfl
theorem swo_cfN (w0 : World) : SWO (ltOf (cfN (w0 := w0))) where
  irrefl x := by rw [lt_cfN, (odr_zero _ _).2 rfl]; rfl
  trans x y z h1 h2 := by
    rw [lt_cfN] at *
    simp only [decide_eq_true_eq] at *
    exact Lt.trans (x := x.val.2) (y := y.val.2) (z := z.val.2) h1 h2
  ntrans x y z h1 h2 := by
    rw [lt_cfN] at *
    simp only [decide_eq_false_iff_not] at *
    have a1 := odr_neg x.val.2.1 y.val.2.1
    have a2 := odr_neg y.val.2.1 z.val.2.1
    have a3 := odr_neg x.val.2.1 z.val.2.1
    intro a4
    by_cases e1 : odr z.val.2.1 y.val.2.1 = 0
    · have := (odr_zero _ _).1 e1
      rw [this] at a4
      exact h1 a4
    · have b1 : odr z.val.2.1 y.val.2.1 < 0 := by omega
      have b2 := Lt.trans (x := x.val.2) (y := z.val.2) (z := y.val.2) a4 b1
      exact h1 b2
theorem v_boxE {ops : Array Oper} {rest : List Oper} {o : Oper} {a : Act} {w : World} {Q : Exit → Act → World → Prop} (hgd : Region.wanted o (yielded ops a.tmps) = true) {t : TypeId} {x : Operand} (ho : o.op = .box t x)
    {l : List Value} (hx : a.eval x = agv l) (h : wpList Try.prog ops Q rest (a.put o.dst (.pointer (some ⟨w.heap.size, 0, none⟩))) (w.alloc (bv t l))) : wpList Try.prog ops Q (o :: rest) a w := by
  refine wpList_step fun K hK' => ?_
  rw [if_pos hgd]
  unfold Oper.wp execOp
  simp only [ho, hx]
  simp only [go_sem, agv]
  exact hK' _ _ h
theorem drew_grow (W : World) (os : Array Obj) (m : Nat) : (grow W os).drewN m = grow (W.drewN m) os := rfl
set_option maxHeartbeats 2000000 in
theorem cmpN_any (v1 v2 : Value) (m n : Nd) (W : World) (h1 : Ris W v1 m.1) (h2 : Ris W v2 n.1) : Calls Try.prog 38 #[agv (ncl v1 m), agv (ncl v2 n)] W fun e w' => e = .returned (.int .i64 (if odr m.1 n.1 < 0 then -1 else 1)) ∧ ∃ q os', w' = grow (W.drewN q) os' := by
  obtain ⟨w1, hw1⟩ : ∃ w1, W.alloc (bv 25 (ncl v1 m)) = w1 := ⟨_, rfl⟩
  obtain ⟨w2, hw2⟩ : ∃ w2, w1.alloc (bv 25 (ncl v2 n)) = w2 := ⟨_, rfl⟩
  have hb1 : Below W.heap.size W w1 := by rw [← hw1]; exact balloc _ _
  have hb2 : Below w1.heap.size w1 w2 := by rw [← hw2]; exact balloc _ _
  have hl1 : w1.heap[W.heap.size]? = some (bv 25 (ncl v1 m)) := by rw [← hw1]; exact (MapKept.heap_alloc W _).1
  have hl2 : w2.heap[w1.heap.size]? = some (bv 25 (ncl v2 n)) := by rw [← hw2]; exact (MapKept.heap_alloc w1 _).1
  have HX1 : Hid (w2.cell? ⟨W.heap.size, 0, none⟩ = some v1) := bv_cell (keep hl1 hb2) rfl
  have HX2 : Hid (w2.cell? ⟨w1.heap.size, 0, none⟩ = some v2) := bv_cell hl2 rfl
  have HG : Hid (∀ q, ∃ q' os', w2.drewN q = grow (W.drewN q') os') := fun q => ⟨q, _, by rw [← hw2, ← hw1, alloc_eq_grow, alloc_eq_grow, grow_grow, drew_grow]⟩
  have HC : Hid (Calls Try.prog 29 #[v1, v2] w2 fun e w' => e = .returned (.bool (decide (odr m.1 n.1 < 0))) ∧ ∃ q, w' = w2.drewN q) := before_any m.1 n.1 v1 v2 w2 ((h1.below hb1).below hb2) ((h2.below hb1).below hb2)
  clear h1 h2 hb1 hb2 hl1 hl2
  by_cases hd : odr m.1 n.1 < 0
  · rw [if_pos hd]
    rw [decide_eq_true hd] at HC
    clear hd
    go_enter Try.func38, Try.ntmps38
    repeat' (first | (go_big_may; first | (refine v_boxE rfl rfl rfl ?_; first | rw [hw1] | rw [hw2]) | (refine v_cel rfl rfl (.inr rfl) rfl HX1.out ?_) | (refine v_cel rfl rfl (.inr rfl) rfl HX2.out ?_)) | go_values | go_skip | go_guarded | go_step | go_upon | (simp only [Int.not_lt, Int.not_le] at *; go_simp))
    refine HC.out.mono ?_
    rintro e u ⟨rfl, q, rfl⟩
    clear hw1 hw2 HX1 HX2 HC
    go_wp2
    go_ret
    exact ⟨rfl, HG.out q⟩
  · rw [if_neg hd]
    rw [decide_eq_false hd] at HC
    clear hd
    go_enter Try.func38, Try.ntmps38
    repeat' (first | (go_big_may; first | (refine v_boxE rfl rfl rfl ?_; first | rw [hw1] | rw [hw2]) | (refine v_cel rfl rfl (.inr rfl) rfl HX1.out ?_) | (refine v_cel rfl rfl (.inr rfl) rfl HX2.out ?_)) | go_values | go_skip | go_guarded | go_step | go_upon | (simp only [Int.not_lt, Int.not_le] at *; go_simp))
    refine HC.out.mono ?_
    rintro e u ⟨rfl, q, rfl⟩
    clear hw1 hw2 HX1 HX2 HC
    go_wp2
    go_ret
    exact ⟨rfl, HG.out q⟩
theorem sort_below {w0 w : World} {g : Nat} (hb : Below w0.heap.size w0 w) (hg : w0.heap.size ≤ g) {α : Type} [Inhabited α] (enc : α → List Value) (m : Nat) (dk : Array α) (os : Array Obj) : Below w0.heap.size w0 (sortWorldK enc 4 w g 0 m dk os) := by
  refine ⟨hb.os, hb.tape, hb.output, ?_, fun k hk => ?_⟩
  · have : (sortWorldK enc 4 w g 0 m dk os).heap.size = w.heap.size + os.size := by simp [sortWorldK, grow, putRowK, putRow, mapBlock, Sort.ahead]
    rw [this]
    have := hb.size
    omega
  · have hkg : g ≠ k := by omega
    have hkw := hb.size
    refine Eq.trans ?_ (hb.block k hk)
    unfold sortWorldK grow putRowK putRow mapBlock Sort.ahead
    simp only
    rw [Array.getElem?_append_left (by simp; omega), Array.getElem?_modify, if_neg hkg]
def arrN {w0 : World} (L : NL) (h : ∀ x ∈ L, Ris w0 x.1 x.2.1) : Array (Xn w0) := (L.pmap (fun x hx => (⟨x, hx⟩ : Xn w0)) h).toArray
theorem arrN_size {w0 : World} (L : NL) (h : ∀ x ∈ L, Ris w0 x.1 x.2.1) : (arrN L h).size = L.length := by simp [arrN]
theorem arrN_val {w0 : World} (L : NL) (h : ∀ x ∈ L, Ris w0 x.1 x.2.1) : (arrN L h).toList.map (·.val) = L := by
  simp [arrN, List.map_pmap]
theorem full_extract {α : Type} (d : Array α) (n : Nat) (h : d.size = n) : d.extract 0 n = d := by subst h; simp
set_option maxHeartbeats 1000000 in
theorem sortN_any (L : NL) (w0 w : World) (v : Value) (ho : Ow w w0.heap.size v L) (hb : Below w0.heap.size w0 w) (h0 : 0 < L.length) (hl : L.length ≤ 1000) (hR : ∀ q ∈ L, Ris w0 q.1 q.2.1) :
    Calls Try.prog 37 #[v, .func (.func 38) #[] #[]] w fun e w' => e = .returned (.tuple #[]) ∧ ∃ M : NL, M.Perm L ∧ M.Pairwise (fun x y => ¬ odr y.2.1 x.2.1 < 0) ∧ Rt w' v M ∧ Below w0.heap.size w0 w' := by
  obtain ⟨g, cap, rest, rfl, hg, hgB, hcl, hcm⟩ := ow_open ho h0
  haveI : Inhabited (Xn w0) := ⟨⟨(nilS, zN), ris_nil w0⟩⟩
  have hsz := arrN_size L hR
  have hval := arrN_val L hR
  obtain ⟨d, hd⟩ : ∃ d, arrN L hR = d := ⟨_, rfl⟩
  rw [hd] at hsz hval
  have hat : ∀ i, i < L.length → L[i]? = some (d[i]!).val := fun i hi => by
    rw [← hval, List.getElem?_map, Array.getElem?_toList, getElem!_pos d i (by omega), Array.getElem?_eq_getElem (by omega)]
    rfl
  have hnc : L.length ≤ cap := by rw [List.length_append, ncs_length] at hcl; omega
  have hH : HoldsK encN 4 w g 0 d := by
    intro j hj
    rw [size_flatK] at hj
    rw [get_flatK encN 4 d j hj]
    refine ⟨?_, bv_free hg _⟩
    have hj2 : j / 4 < L.length := by omega
    have hm : j % 4 < 4 := Nat.mod_lt _ (by omega)
    have hx := ncs_at L (j / 4) _ (hat _ hj2) (j % 4) ((encN d[j / 4]!)[j % 4]'hm) (List.getElem?_eq_getElem hm)
    rw [show j / 4 * 4 + j % 4 = j by omega] at hx
    rw [Nat.zero_add]
    have hjl : j < (ncs L).length := by rw [ncs_length]; omega
    have := bv_cell hg (j := j) (x := (encN d[j / 4]!)[j % 4]'hm) (by rw [List.getElem?_append_left hjl]; exact hx)
    rw [this]
    congr 1
    exact (getElem!_pos _ _ _).symm
  have hcon := Try.slices_SortFunc (encN (w0 := w0)) (fun _ => rfl) (fun x v hv => (ncl_vs x.val.2 (ris_one x.property)).one v hv) cfN (swo_cfN w0) 38 #[] g 0 cap d w (enters_of Try.func38 (by kernel_rfl) rfl)
    (fun m os dk hs x y => cmpN_any x.val.1 y.val.1 x.val.2 y.val.2 _ (x.property.below (sort_below hb hgB encN m dk os)) (y.property.below (sort_below hb hgB encN m dk os))) hH (bx_lt hg) (by omega)
  rw [hsz] at hcon
  refine hcon.mono ?_
  rintro e w' ⟨rfl, d', m, os, hp, hs, rfl⟩
  have hd' : d'.size = L.length := by rw [hp.1]; omega
  have hbw := sort_below hb hgB (encN (w0 := w0)) m d' os
  refine ⟨rfl, d'.toList.map (·.val), ?_, ?_, ?_, hbw⟩
  · have h1 := hp.2.2
    rw [full_extract d' _ hd', full_extract d _ hsz] at h1
    have h2 := h1.map (·.val)
    rw [hval] at h2
    exact h2
  · rw [List.pairwise_iff_getElem]
    intro i j hi hj hij
    have hi' : i < d'.size := by simpa using hi
    have hj' : j < d'.size := by simpa using hj
    have := hs i j (Nat.zero_le _) hij (by omega)
    rw [lt_cfN, decide_eq_false_iff_not, getElem!_pos d' i hi', getElem!_pos d' j hj'] at this
    simp only [List.getElem_map, Array.getElem_toList]
    exact this
  · have hH' : HoldsK encN 4 (sortWorldK encN 4 w g 0 m d' os) g 0 d' := holdsK_grow encN 4 _ os g 0 d' (by rw [show (putRowK encN 4 (Sort.ahead w m) g 0 d').heap.size = w.heap.size by simp [putRowK, putRow, mapBlock, Sort.ahead]]; exact bx_lt hg) (holdsK_putRowK encN 4 (Sort.ahead w m) g 0 d d' hH hp.1)
    have hlen : (d'.toList.map (·.val)).length = L.length := by simp [hd']
    refine ⟨⟨some ⟨g, 0, none⟩, cap, by rw [hlen], by rw [hlen]; exact hnc, hcm, fun _ => ⟨g, 0, rfl, ?_, fun j x hx => ?_⟩⟩, fun q hq => ?_⟩
    · have : (sortWorldK encN 4 w g 0 m d' os).heap.size = w.heap.size + os.size := by simp [sortWorldK, grow, putRowK, putRow, mapBlock, Sort.ahead]
      rw [this]
      have := bx_lt hg
      omega
    · have hj := (List.getElem?_eq_some_iff.1 hx).1
      rw [ncs_length, hlen] at hj
      have hj4 : j / 4 < d'.size := by omega
      have hm : j % 4 < 4 := Nat.mod_lt _ (by omega)
      have hq : (d'.toList.map (·.val))[j / 4]? = some (d'[j / 4]!).val := by
        rw [List.getElem?_map, Array.getElem?_toList, getElem!_pos d' _ hj4, Array.getElem?_eq_getElem hj4]
        rfl
      have hx2 := ncs_at _ (j / 4) _ hq (j % 4) ((encN d'[j / 4]!)[j % 4]'hm) (List.getElem?_eq_getElem hm)
      rw [show j / 4 * 4 + j % 4 = j by omega] at hx2
      rw [hx] at hx2
      injection hx2 with hx2
      have hc := (hH' j (by rw [size_flatK]; omega)).1
      rw [get_flatK encN 4 d' j (by omega)] at hc
      rw [Nat.zero_add] at hc ⊢
      rw [hc, hx2]
      congr 1
      exact getElem!_pos _ _ _
    · obtain ⟨x, _, rfl⟩ := List.mem_map.1 hq
      exact x.property.below hbw
end Go.Proofs.Ytemlafdmeaobfaa.topo
