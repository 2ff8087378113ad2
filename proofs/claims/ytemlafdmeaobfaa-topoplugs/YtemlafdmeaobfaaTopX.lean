/- topo: what slices.DeleteFunc answers, of nodes. -/
import Derived.Test.YtemlafdmeaobfaaTopW
namespace Go.Proofs.Ytemlafdmeaobfaa.topo
open Go Go.RowKit Go.Proofs.Ytemlafdmeaobfaa.route
set_option linter.unusedVariables false
set_option linter.unusedSimpArgs false
set_option maxRecDepth 100000

theorem zero_one (k : Nat) : ∀ v ∈ (Builtin.zeroCells (agv (ncl nilS zN)).cells k).toList, v.oneCell' = true := fun v hv => by
  have hs : ((agv (ncl nilS zN)).cells).size = 4 := rfl
  simp only [Builtin.zeroCells, Array.toList_map, List.mem_map] at hv
  obtain ⟨j, _, rfl⟩ := hv
  have hm : j % 4 < 4 := Nat.mod_lt _ (by omega)
  rw [hs]
  rcases (by omega : j % 4 = 0 ∨ j % 4 = 1 ∨ j % 4 = 2 ∨ j % 4 = 3) with q | q | q | q <;> rw [q] <;> rfl
theorem run_clearN (w : World) (ty : TypeId) (g o m c : Nat) (T : TypeId) (l : List Value) (hm : 0 < m) (hg : w.heap[g]? = some (bv T l)) (hfit : o + m * 4 ≤ l.length) :
    ∃ zs, zs.length = m * 4 ∧ (Builtin.clear_ #[22] ty #[.slice (some ⟨g, o, none⟩) m c]).run Try.prog w = .ok (.tuple #[]) (w.setRow g (ptv l o zs).toArray) := by
  obtain ⟨i0, hi, hz0, hz1, hz2⟩ := info_parts' infoN
  refine ⟨(Builtin.zeroCells (agv (ncl nilS zN)).cells m).toList, zeroCells_size _ _, ?_⟩
  have hl : (Builtin.zeroCells (agv (ncl nilS zN)).cells m).toList.length = m * 4 := zeroCells_size _ _
  have hst := run_storeCells_at Try.prog g o T _ 0 l.toArray w hg (by simpa [hl] using hfit) (zero_one m)
  have hv : (zeroValue 25).run Try.prog w = .ok (agv (ncl nilS zN)) w := by simp [zeroValue, typeInfo, hi, hz0]
  rw [Nat.add_zero] at hst
  obtain ⟨k, rfl⟩ : ∃ k, m = k + 1 := ⟨m - 1, by omega⟩
  simp only [Builtin.clear_]
  simp [run_underlying Try.underlying22, hv, hst, ptv]
theorem a_clear {ops : Array Oper} {rest : List Oper} {o : Oper} {a : Act} {w : World} {Q : Exit → Act → World → Prop} (hgd : Region.wanted o (yielded ops a.tmps) = true) {x : Operand} (ho : o.op = .call { callee := .builtin .clear, args := #[x], argTypes := #[22] })
    {g k m c : Nat} {T : TypeId} {l : List Value} (hx : a.eval x = .slice (some ⟨g, k, none⟩) m c) (hg : w.heap[g]? = some (bv T l)) (hm : 0 < m) (hfit : k + m * 4 ≤ l.length)
    (h : ∀ u zs, zs.length = m * 4 → u.heap[g]? = some (bv T (ptv l k zs)) → Chg g w u → wpList Try.prog ops Q rest (a.put o.dst (.tuple #[])) u) : wpList Try.prog ops Q (o :: rest) a w := by
  refine wpList_step fun K hK' => ?_
  rw [if_pos hgd]
  obtain ⟨zs, hz, hr⟩ := run_clearN w o.type g k m c T l hm hg hfit
  unfold Oper.wp execOp
  simp only [ho, resolve, invoke, builtin, Sem.run_bind, Sem.run_pure, Result.andThen_ok, List.map_toArray, List.map_cons, List.map_nil, hx, hr]
  exact hK' _ _ (h _ zs hz (setRow_heap w g _ _ T _ hg) (setRow_chg _ hg))
theorem cv_ncs {M : NL} {rest : List Value} {j : Nat} {q : Value × Nd} (h : M[j]? = some q) : cv (ncs M ++ rest) (j * 4) 4 = ncl q.1 q.2 := by
  have hj := (List.getElem?_eq_some_iff.1 h).1
  unfold cv
  rw [List.drop_append_of_le_length (by rw [ncs_length]; omega), ncs_drop, List.drop_eq_getElem_cons hj, (List.getElem?_eq_some_iff.1 h).2]
  rfl
theorem ptv_ncs_app {M : NL} {rest : List Value} {k : Nat} {q : Value × Nd} (h : k < M.length) : ptv (ncs M ++ rest) (k * 4) (ncl q.1 q.2) = ncs (M.set k q) ++ rest := by
  have hq : (ncl q.1 q.2).length = 4 := rfl
  rw [← ptv_ncs h]
  unfold ptv
  rw [hq, List.take_append_of_le_length (by rw [ncs_length]; omega), List.drop_append_of_le_length (by rw [ncs_length]; omega)]
  simp [List.append_assoc]
theorem ptv_clear {M : NL} {rest zs : List Value} {k : Nat} (hk : k ≤ M.length) (hz : zs.length = (M.length - k) * 4) : ptv (ncs M ++ rest) (k * 4) zs = ncs (M.take k) ++ (zs ++ rest) := by
  unfold ptv
  rw [hz, List.take_append_of_le_length (by rw [ncs_length]; omega), ncs_take, List.append_assoc]
  congr 2
  rw [show k * 4 + (M.length - k) * 4 = (ncs M).length + 0 by rw [ncs_length]; omega, List.drop_length_add_append, List.drop_zero]
theorem rt_pre {u : World} {g cap : Nat} {M : NL} {rest : List Value} (h : u.heap[g]? = some (bv 25 (ncs M ++ rest))) (hc : M.length ≤ cap) (hm : cap ≤ maxLen) (hr : ∀ q ∈ M, Ris u q.1 q.2.1) : Rt u (.slice (some ⟨g, 0, none⟩) M.length cap) M :=
  ⟨⟨_, cap, rfl, hc, hm, fun _ => ⟨g, 0, rfl, bx_lt h, fun j x hx => by
    rw [Nat.zero_add]
    exact bv_cell h (by rw [List.getElem?_append_left (List.getElem?_eq_some_iff.1 hx).1]; exact hx)⟩⟩, hr⟩
/-- what is not deleted -/
def fil (f : Nd → Bool) (L : NL) : NL := L.filter fun q => !f q.2
theorem fil_tr (f : Nd → Bool) (L : NL) : tr (fil f L) = (tr L).filter fun x => !f x := by
  unfold fil tr
  rw [List.filter_map]
  rfl
theorem fil_next {f : Nd → Bool} {L : NL} {j : Nat} {q : Value × Nd} (h : L[j]? = some q) : fil f (L.take (j + 1)) = if f q.2 = true then fil f (L.take j) else fil f (L.take j) ++ [q] := by
  obtain ⟨hj, e⟩ := List.getElem?_eq_some_iff.1 h
  unfold fil
  rw [List.take_succ_eq_append_getElem hj, e, List.filter_append]
  cases hf : f q.2 <;> simp [hf]
/-- how far it has come -/
structure Df (f : Nd → Bool) (L : NL) (i j : Nat) (M : NL) : Prop where
  lt : i < j
  le : j ≤ L.length
  len : M.length = L.length
  fore : M.take i = fil f (L.take j)
  hind : M.drop j = L.drop j
theorem Df.at {f : Nd → Bool} {L M : NL} {i j : Nat} (h : Df f L i j M) {q : Value × Nd} (hq : L[j]? = some q) : M[j]? = some q := by
  have e := congrArg (fun l => l[0]?) h.hind
  simpa [hq] using e
theorem Df.pass {f : Nd → Bool} {L M : NL} {i j : Nat} (h : Df f L i j M) {q : Value × Nd} (hq : L[j]? = some q) (hf : f q.2 = true) : Df f L i (j + 1) M := by
  have hj := (List.getElem?_eq_some_iff.1 hq).1
  refine ⟨by have := h.lt; omega, hj, h.len, ?_, ?_⟩
  · rw [fil_next hq, if_pos hf]; exact h.fore
  · have e := congrArg (List.drop 1) h.hind
    simpa [List.drop_drop] using e
theorem Df.keep {f : Nd → Bool} {L M : NL} {i j : Nat} (h : Df f L i j M) {q : Value × Nd} (hq : L[j]? = some q) (hf : f q.2 = false) : Df f L (i + 1) (j + 1) (M.set i q) := by
  have hj := (List.getElem?_eq_some_iff.1 hq).1
  have hl := h.lt
  have hn := h.len
  refine ⟨by omega, hj, by rw [List.length_set]; exact h.len, ?_, ?_⟩
  · rw [fil_next hq, if_neg (by rw [hf]; simp), List.take_succ_eq_append_getElem (by rw [List.length_set]; omega), List.take_set_of_le (Nat.le_refl _), List.getElem_set_self, h.fore]
  · rw [List.drop_set_of_lt (by omega)]
    have e := congrArg (List.drop 1) h.hind
    simpa [List.drop_drop] using e
theorem Df.start {f : Nd → Bool} {L : NL} {k : Nat} (h : ixf f (tr L) = some k) : Df f L k (k + 1) L := by
  unfold ixf at h
  rw [List.findIdx?_eq_some_iff_getElem] at h
  obtain ⟨hk, h1, h2⟩ := h
  have hkL : k < L.length := by rw [tr_len] at hk; exact hk
  have hq : L[k]? = some L[k] := List.getElem?_eq_getElem hkL
  have ht : (tr L)[k] = (L[k]).2 := by simp [tr]
  refine ⟨Nat.lt_succ_self _, hkL, rfl, ?_, rfl⟩
  rw [fil_next hq, if_pos (by rw [← ht]; exact h1)]
  unfold fil
  refine (List.filter_eq_self.2 fun q hq => ?_).symm
  obtain ⟨j, hj, e⟩ := List.mem_take_iff_getElem.1 hq
  have := h2 j (by omega)
  have e2 : (tr L)[j]'(by rw [tr_len]; omega) = q.2 := by simp [tr, e]
  rw [e2] at this
  simpa using this
theorem Df.done {f : Nd → Bool} {L M : NL} {i j : Nat} (h : Df f L i j M) (hj : ¬ j < L.length) : M.take i = fil f L := by
  rw [h.fore, List.take_of_length_le (by omega)]
set_option maxHeartbeats 4000000 in
theorem deleteF_any (F : FuncId) (cb : Array Value) (f : Nd → Bool) (g n cap : Nat) (L : NL) (rest : List Value) (w0 w : World) (hw : Mm w0 w [(g, 25, ncs L ++ rest)]) (hl : L.length = n) (hc : (ncs L ++ rest).length = cap * 4) (hcm : cap ≤ maxLen) (hn : n ≤ 1000)
    (hR : ∀ q ∈ L, ∀ u, Below w0.heap.size w0 u → Ris u q.1 q.2.1) (eg : ∀ args w, (callFunc F args).run Try.prog w = .ok (.enter F args) w)
    (hF : ∀ q ∈ L, ∀ u, Below w0.heap.size w0 u → Calls Try.prog F (#[agv (ncl q.1 q.2)] ++ cb) u fun e u' => e = .returned (.bool (f q.2)) ∧ Below u.heap.size u u') :
    Calls Try.prog 43 #[.slice (some ⟨g, 0, none⟩) n cap, .func (.func F) #[] cb] w fun e u => e = .returned (.slice (some ⟨g, 0, none⟩) (fil f L).length cap) ∧ ∃ rest', Mm w0 u [(g, 25, ncs (fil f L) ++ rest')] := by
  have hnc : n ≤ cap := by rw [List.length_append, ncs_length] at hc; omega
  have hrt : Rt w (.slice (some ⟨g, 0, none⟩) n cap) L := by have := rt_pre hw.at0 (by rw [hl]; exact hnc) hcm (fun q hq => hR q hq w hw.below); rw [hl] at this; exact this
  have HI : Hid (Calls Try.prog 22 #[.slice (some ⟨g, 0, none⟩) n cap, .func (.func F) #[] cb] w fun e u => e = .returned (.int .i64 (ixV (ixf f (tr L)))) ∧ Below w.heap.size w u) := indexN_any F cb f _ L w hrt eg fun q hq u hb hr => hF q hq u (bsq hw.below hb)
  have HF : Hid (∀ q ∈ L, ∀ u, Below w0.heap.size w0 u → Calls Try.prog F (#[agv (ncl q.1 q.2)] ++ cb) u fun e u' => e = .returned (.bool (f q.2)) ∧ Below u.heap.size u u') := hF
  have H1 : Hid (∀ q ∈ L, q.1.oneCell' = true) := fun q hq => ris_one (hR q hq w hw.below)
  have hM := hw
  unfold maxLen at hcm
  cases hx : ixf f (tr L) with
  | none =>
    have hfl : fil f L = L := by
      unfold ixf at hx
      rw [List.findIdx?_eq_none_iff] at hx
      unfold fil
      refine List.filter_eq_self.2 fun q hq => ?_
      have := hx q.2 (List.mem_map.2 ⟨q, hq, rfl⟩)
      simpa using this
    rw [hfl, hl]
    rw [hx, show ixV none = (-1 : Int) from rfl] at HI
    clear hw hrt hc hR hF HF H1 hx hfl hl
    go_enter Try.func43, Try.ntmps43
    repeat' (first | go_values | go_skip | go_guarded | go_step | go_upon | (simp only [Int.not_lt, Int.not_le] at *; go_simp))
    refine HI.out.mono ?_
    rintro e u1 ⟨rfl, hb⟩
    replace hM := hM.call hb
    clear hb HI
    repeat' (first | go_values | go_skip | go_guarded | go_step | go_upon | (simp only [Int.not_lt, Int.not_le] at *; go_simp))
    go_ret
    exact ⟨rfl, rest, hM⟩
  | some k =>
    have hD := Df.start hx
    rw [hx, show ixV (some k) = (k : Int) from rfl] at HI
    have hk1 : ((k : Int) == -1) = false := by rw [beq_eq_false_iff_ne]; omega
    have hkn : k < n := by have := hD.le; omega
    have HD0 : Hid (Df f L k (k + 1) L) := hD
    have HC : Hid ((ncs L ++ rest).length = cap * 4 ∧ L.length = n) := ⟨hc, hl⟩
    obtain ⟨K, hK⟩ : ∃ K, k + 1 = K := ⟨_, rfl⟩
    have hKI : (k : Int) + 1 = (K : Int) := by omega
    rw [hK] at HD0
    have hKn : K ≤ n := by omega
    clear hw hrt hc hR hF hx hD hl
    go_enter Try.func43, Try.ntmps43
    repeat' (first | go_values | go_skip | go_guarded | go_step | go_upon | (simp only [Int.not_lt, Int.not_le] at *; go_simp))
    refine HI.out.mono ?_
    rintro e u1 ⟨rfl, hb⟩
    replace hM := hM.call hb
    have HM : Hid (∃ M, Mm w0 u1 [(g, 25, ncs M ++ rest)] ∧ Df f L k K M ∧ ∀ q ∈ M, q ∈ L) := ⟨L, hM, HD0.out, fun q hq => hq⟩
    clear hb HI hM HD0
    repeat' (first | go_values | go_skip | go_guarded | go_step | go_upon | (simp only [Int.not_lt, Int.not_le] at *; go_simp))
    go_loopw [5, 6, 7] (fun iv jv _ wr => ∃ i j : Nat, i < j ∧ j ≤ n ∧ iv = .int .i64 (i : Int) ∧ jv = .int .i64 (j : Int) ∧ Hid (∃ M, Mm w0 wr [(g, 25, ncs M ++ rest)] ∧ Df f L i j M ∧ ∀ q ∈ M, q ∈ L)) (fun _ jv _ _ => n - (intOf jv).toNat)
    case atStart => exact ⟨k, K, by omega, hKn, rfl, rfl, HM.out⟩
    case round =>
      clear HM
      obtain ⟨i, j, hij, hj, rfl, rfl, HA⟩ := hrel
      obtain ⟨M, hM, hD, hML⟩ := HA.out
      have HD : Hid (Df f L i j M ∧ ∀ q ∈ M, q ∈ L) := ⟨hD, hML⟩
      clear HA hD hML
      by_cases hlt : ¬ j < n
      · have hin : i < n := by omega
        have hic : i < cap := by omega
        have hs1 := fun W => slc_from (g := g) (n := n) (c := cap) (k := i) (by omega) hic W
        have hs2 := fun W => slc_upto (g := g) (n := n) (c := cap) (k := i) (by omega) W
        obtain ⟨m, hm⟩ : ∃ m, n - i = m := ⟨_, rfl⟩
        obtain ⟨c2, hc2⟩ : ∃ m, cap - i = m := ⟨_, rfl⟩
        rw [hm, hc2] at hs1
        have HD2 := HD.out.1.done (by have := HC.out; omega)
        have hMl := HD.out.1.len
        have HP : Hid (0 < m ∧ i * 4 + m * 4 ≤ (ncs M ++ rest).length) := ⟨by omega, by rw [List.length_append, ncs_length]; have := HC.out; omega⟩
        have HQ : Hid (∀ zs : List Value, zs.length = m * 4 → ptv (ncs M ++ rest) (i * 4) zs = ncs (fil f L) ++ (zs ++ rest)) := fun zs hz => by
          rw [← HD2]
          exact ptv_clear (by have := HC.out; omega) (by rw [hz, ← hm]; have := HC.out; rw [hMl, this.2])
        have HFL : Hid ((fil f L).length = i) := by show _ = _; rw [← HD2, List.length_take]; have := HC.out; omega
        clear HD HD2 hMl HF H1 hm hc2
        repeat' (first | (go_big_may; first | (refine a_clear rfl rfl rfl hM.at0 HP.out.1 HP.out.2 ?_; intro u zs hz hv hc; rw [HQ.out zs hz] at hv; replace hM := hM.put0 hc hv; clear hv hc)) | go_values | go_skip | go_guarded | go_step | go_upon | (simp only [Int.not_lt, Int.not_le] at *; go_simp))
        go_ret
        rw [HFL.out]
        exact ⟨rfl, _, hM⟩
      have hlt : j < n := by omega
      obtain ⟨⟨qv, q⟩, hq⟩ : ∃ q, L[j]? = some q := ⟨_, List.getElem?_eq_getElem (by have := HC.out; omega)⟩
      have hqL := List.mem_of_getElem? hq
      have HLE : Hid (j * 4 + 4 ≤ (ncs M ++ rest).length ∧ i * 4 + 4 ≤ (ncs M ++ rest).length) := by
        have h1 := HD.out.1.len
        have h2 := HC.out
        constructor <;> (rw [List.length_append, ncs_length]; omega)
      have HCV : Hid (cv (ncs M ++ rest) (j * 4) 4 = ncl qv q) := cv_ncs (q := (qv, q)) (HD.out.1.at hq)
      have HPT : Hid (ptv (ncs M ++ rest) (i * 4) (ncl qv q) = ncs (M.set i (qv, q)) ++ rest) := ptv_ncs_app (q := (qv, q)) (by have := HD.out.1.len; have := HC.out; omega)
      have HVQ : Hid (Vs (ncl qv q) 4) := ncl_vs q (H1.out _ hqL)
      have HF2 : Hid (∀ u, Below w0.heap.size w0 u → Calls Try.prog F (#[agv (ncl qv q)] ++ cb) u fun e u' => e = .returned (.bool (f q)) ∧ Below u.heap.size u u') := fun u hb => HF.out (qv, q) hqL u hb
      have HT : Hid (f q = true → Df f L i (j + 1) M ∧ ∀ q ∈ M, q ∈ L) := fun hf => ⟨HD.out.1.pass hq hf, HD.out.2⟩
      have HE : Hid (f q = false → Df f L (i + 1) (j + 1) (M.set i (qv, q)) ∧ ∀ x ∈ M.set i (qv, q), x ∈ L) := fun hf => ⟨HD.out.1.keep hq hf, fun x hx => by
        rcases List.mem_or_eq_of_mem_set hx with r | r
        · exact HD.out.2 x r
        · rw [r]; exact hqL⟩
      obtain ⟨b, hb⟩ : ∃ b, f q = b := ⟨_, rfl⟩
      simp only [hb] at HF2 HT HE
      have hin : i < n := by omega
      clear HD HF H1 hq hqL hb
      repeat' (first | (go_big_may; first | (refine v_load rfl rfl row_node rfl hM.at0 HLE.out.1 HCV.out ?_) | (refine v_alloc rfl zer_node rfl ?_; intro u xn hN; replace hM := hM.new hN; clear hN) | (refine v_fill rfl rfl row_node rfl rfl hM.at0 HVQ.out rfl ?_; intro u hv hc; replace hM := hM.put0 hc hv; clear hv hc) | (refine v_load rfl rfl row_node rfl hM.at0 (Nat.le_refl 4) rfl ?_)) | go_values | go_skip | go_guarded | go_step | go_upon | (simp only [Int.not_lt, Int.not_le] at *; go_simp))
      refine (HF2.out _ hM.below).mono ?_
      rintro e u2 ⟨rfl, hb⟩
      replace hM := hM.call hb
      clear hb HF2
      cases b with
      | true =>
        have HQ : Hid (∃ M, Mm w0 u2 [(g, 25, ncs M ++ rest)] ∧ Df f L i (j + 1) M ∧ ∀ q ∈ M, q ∈ L) := ⟨M, hM.sub (by simp), HT.out (by first | rfl | trivial)⟩
        clear HT HE hM HCV HPT HLE
        repeat' (first | go_values | go_skip | go_guarded | go_step | go_upon | (simp only [Int.not_lt, Int.not_le] at *; go_simp))
        go_roundw
        case rel => exact ⟨i, j + 1, by omega, by omega, rfl, by go_num, HQ.out⟩
        case measure => simp [intOf]; omega
      | false =>
        have HE2 := HE.out (by first | rfl | trivial)
        have HE3 : Hid (Df f L (i + 1) (j + 1) (M.set i (qv, q)) ∧ ∀ x ∈ M.set i (qv, q), x ∈ L) := HE2
        clear HT HE HE2 HCV
        repeat' (first | (go_big_may; first | (refine v_load rfl rfl row_node rfl hM.at0 (Nat.le_refl 4) rfl ?_) | (refine v_store rfl rfl row_node rfl rfl hM.at1 HVQ.out HLE.out.2 HPT.out ?_; intro u hv hc; replace hM := hM.put1 hc hv; clear hv hc)) | go_values | go_skip | go_guarded | go_step | go_upon | (simp only [Int.not_lt, Int.not_le] at *; go_simp))
        have HQ : Hid (∃ M, Mm w0 u [(g, 25, ncs M ++ rest)] ∧ Df f L (i + 1) (j + 1) M ∧ ∀ q ∈ M, q ∈ L) := ⟨_, hM.sub (by simp), HE3.out⟩
        clear hM HE3 HPT HLE
        repeat' (first | go_values | go_skip | go_guarded | go_step | go_upon | (simp only [Int.not_lt, Int.not_le] at *; go_simp))
        go_roundw
        case rel => exact ⟨i + 1, j + 1, by omega, by omega, by go_num, by go_num, HQ.out⟩
        case measure => simp [intOf]; omega
end Go.Proofs.Ytemlafdmeaobfaa.topo
