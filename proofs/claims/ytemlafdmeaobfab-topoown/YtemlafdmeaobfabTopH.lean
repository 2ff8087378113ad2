/- topo: boxes beside nodes with paths of their own; what copyOfAll and slices.Insert answer. -/
import Derived.Test.YtemlafdmeaobfabTopF
import Derived.Lib.AppendZerosOnto
import Derived.Laws.CopyRow
namespace Go.Proofs.Ytemlafdmeaobfab.topo
open Go Go.RowKit Go.Proofs.Ytemlafdmeaobfab.route
set_option linter.unusedVariables false
set_option linter.unusedSimpArgs false
set_option maxRecDepth 100000

/-- boxes, and nodes with paths of the call's own -/
structure Mn (w u : World) (L : List Bk) (R : NL) : Prop where
  mm : Mm w u L
  ty : ∀ x ∈ L, x.2.1 ≠ 3
  on : ∀ q ∈ R, On u w.heap.size q.1 q.2
theorem Mn.nil (w : World) : Mn w w [] [] := ⟨Mm.nil w, fun x h => by simp at h, fun x h => by simp at h⟩
section
variable {w u v : World} {L : List Bk} {R : NL} {B : Nat} {T : TypeId} {l l' : List Value}
theorem Mn.below (h : Mn w u L R) : Below w.heap.size w u := h.mm.below
theorem Mn.new (h : Mn w u L R) (n : New u v B T l) (ht : T ≠ 3 := by decide) : Mn w v ((B, T, l) :: L) R := ⟨h.mm.new n, fun x hx => by
  rcases List.mem_cons.1 hx with rfl | q
  · exact ht
  · exact h.ty x q, fun q hq => (h.on q hq).below n.below⟩
theorem Mn.call (h : Mn w u L R) (hb : Below u.heap.size u v) : Mn w v L R := ⟨h.mm.call hb, h.ty, fun q hq => (h.on q hq).below hb⟩
theorem Mn.drew (h : Mn w u L R) : Mn w u.drew L R := ⟨h.mm.drew, h.ty, fun q hq => (h.on q hq).below (Below.refl _ _).drew⟩
theorem Mn.sub {M : List Bk} (h : Mn w u L R) (hs : M.Sublist L) : Mn w u M R := ⟨h.mm.sub hs, fun x hx => h.ty x (hs.subset hx), h.on⟩
/-- a callee's node with a path of its own -/
theorem Mn.add {pv : Value} {n : Nd} (h : Mn w u L R) (ho : On u w.heap.size pv n) : Mn w u L ((pv, n) :: R) := ⟨h.mm, h.ty, fun q hq => by
  rcases List.mem_cons.1 hq with rfl | q
  · exact ho
  · exact h.on _ q⟩
theorem Mn.few {S : NL} (h : Mn w u L R) (hs : ∀ q ∈ S, q ∈ R) : Mn w u L S := ⟨h.mm, h.ty, fun q hq => h.on q (hs q hq)⟩
theorem Mn.put {pre post : List Bk} (h : Mn w u (pre ++ (B, T, l) :: post) R) (hc : Chg B u v) (hl : v.heap[B]? = some (bv T l')) : Mn w v (pre ++ (B, T, l') :: post) R := ⟨h.mm.put hc hl, fun x hx => by
  rcases List.mem_append.1 hx with q | q
  · exact h.ty x (List.mem_append.2 (.inl q))
  · rcases List.mem_cons.1 q with rfl | q
    · exact h.ty (B, T, l) (by simp)
    · exact h.ty x (List.mem_append.2 (.inr (List.mem_cons_of_mem _ q))), fun q hq => (h.on q hq).chg (h.mm.lies (B, T, l) (by simp)) (h.ty (B, T, l) (by simp)) hc⟩
variable {a b c d f g : Bk}
theorem Mn.at0 (h : Mn w u ((B, T, l) :: L) R) : u.heap[B]? = some (bv T l) := h.mm.at0
theorem Mn.at1 (h : Mn w u (a :: (B, T, l) :: L) R) : u.heap[B]? = some (bv T l) := h.mm.at1
theorem Mn.at2 (h : Mn w u (a :: b :: (B, T, l) :: L) R) : u.heap[B]? = some (bv T l) := h.mm.at2
theorem Mn.at3 (h : Mn w u (a :: b :: c :: (B, T, l) :: L) R) : u.heap[B]? = some (bv T l) := h.mm.at3
theorem Mn.put0 (h : Mn w u ((B, T, l) :: L) R) (hc : Chg B u v) (hl : v.heap[B]? = some (bv T l')) : Mn w v ((B, T, l') :: L) R := Mn.put (pre := []) h hc hl
theorem Mn.put1 (h : Mn w u (a :: (B, T, l) :: L) R) (hc : Chg B u v) (hl : v.heap[B]? = some (bv T l')) : Mn w v (a :: (B, T, l') :: L) R := Mn.put (pre := [a]) h hc hl
theorem Mn.put2 (h : Mn w u (a :: b :: (B, T, l) :: L) R) (hc : Chg B u v) (hl : v.heap[B]? = some (bv T l')) : Mn w v (a :: b :: (B, T, l') :: L) R := Mn.put (pre := [a, b]) h hc hl
theorem Mn.put3 (h : Mn w u (a :: b :: c :: (B, T, l) :: L) R) (hc : Chg B u v) (hl : v.heap[B]? = some (bv T l')) : Mn w v (a :: b :: c :: (B, T, l') :: L) R := Mn.put (pre := [a, b, c]) h hc hl
end
theorem infoN : (Try.prog.info? 25).map (fun i => (i.zero, i.size, i.bytes)) = some (some (agv (ncl nilS zN)), 4, 48) := by kernel_rfl
theorem made_nodes (n : Nat) : (madeCells (ncl nilS zN).toArray (n * 4)).toList = ncs (List.replicate n (nilS, zN)) := by
  apply List.ext_getElem?
  intro j
  by_cases hj : j < n * 4
  · have hm := Nat.mod_lt j (show 0 < 4 by omega)
    have hx := ncs_at (List.replicate n (nilS, zN)) (j / 4) (nilS, zN) (by rw [List.getElem?_replicate, if_pos (by omega)]) (j % 4) ((ncl nilS zN)[j % 4]'hm) (List.getElem?_eq_getElem hm)
    rw [show j / 4 * 4 + j % 4 = j by omega] at hx
    rw [hx]
    have hm2 : j % (ncl nilS zN).length < (ncl nilS zN).length := hm
    simp [madeCells, hj]
    rw [List.getElem?_eq_getElem hm2]
    rfl
  · have hr : (ncs (List.replicate n (nilS, zN)))[j]? = none := List.getElem?_eq_none (by rw [ncs_length, List.length_replicate]; omega)
    rw [hr]
    simp [madeCells]
    omega
theorem run_make_nodes {w : World} {n : Nat} (hn : n ≤ 1000) :
    (Instr.makeSlice 22 (.int .i64 (n : Int)) (.int .i64 (n : Int))).run Try.prog w = .ok (.slice (some ⟨w.heap.size, 0, none⟩) n n) (w.alloc (bv 25 (ncs (List.replicate n (nilS, zN))))) := by
  obtain ⟨i, h1, h2, h3, h4⟩ := info_parts' infoN
  have hb2 : (i.bytes : Int) * (n : Int) ≤ 281474976710656 := by rw [h4]; omega
  have := run_make (P := Try.prog) w 22 25 i _ Try.underlying22 h1 h2 .i64 .i64 (n : Int) (n : Int) (by omega) (by omega) hb2 (by omega)
  rw [this]
  simp only [Int.toNat_natCast]
  congr 2
  unfold bv
  rw [h3, ← made_nodes n]
  rfl
theorem v_maken {ops : Array Oper} {rest : List Oper} {o : Oper} {a : Act} {w : World} {Q : Exit → Act → World → Prop} (hgd : Region.wanted o (yielded ops a.tmps) = true) {x y : Operand} (ho : o.op = .makeSlice 22 x y) {n : Nat} (hx : a.eval x = .int .i64 (n : Int)) (hy : a.eval y = .int .i64 (n : Int)) (hn : n ≤ 1000)
    (h : ∀ u B, New w u B 25 (ncs (List.replicate n (nilS, zN))) → wpList Try.prog ops Q rest (a.put o.dst (.slice (some ⟨B, 0, none⟩) n n)) u) : wpList Try.prog ops Q (o :: rest) a w := by
  refine wpList_step fun K hK' => ?_
  rw [if_pos hgd]
  unfold Oper.wp execOp
  simp only [ho, hx, hy, Sem.run_bind, run_make_nodes hn, Result.andThen_ok, Sem.run_pure]
  exact hK' _ _ (h _ _ (New.alloc w 25 _))
theorem ncs_take : ∀ (M : NL) (k : Nat), (ncs M).take (k * 4) = ncs (M.take k)
  | [], k => by simp [ncs]
  | x :: M, 0 => by simp [ncs]
  | x :: M, k + 1 => by
    have e : ∀ (y : Value × Nd) R, ncs (y :: R) = ncl y.1 y.2 ++ ncs R := fun y R => rfl
    rw [List.take_succ_cons, e, e, show (k + 1) * 4 = (ncl x.1 x.2).length + k * 4 by simp [ncl]; omega, List.take_length_add_append, ncs_take M k]
theorem ncs_drop : ∀ (M : NL) (k : Nat), (ncs M).drop (k * 4) = ncs (M.drop k)
  | [], k => by simp [ncs]
  | x :: M, 0 => by simp [ncs]
  | x :: M, k + 1 => by
    have e : ∀ (y : Value × Nd) R, ncs (y :: R) = ncl y.1 y.2 ++ ncs R := fun y R => rfl
    rw [List.drop_succ_cons, e, show (k + 1) * 4 = (ncl x.1 x.2).length + k * 4 by simp [ncl]; omega, List.drop_length_add_append, ncs_drop M k]
theorem ptv_ncs {M : NL} {k : Nat} {q : Value × Nd} (h : k < M.length) : ptv (ncs M) (k * 4) (ncl q.1 q.2) = ncs (M.set k q) := by
  unfold ptv
  rw [show k * 4 + (ncl q.1 q.2).length = (k + 1) * 4 by simp [ncl]; omega, ncs_take, ncs_drop, List.set_eq_take_append_cons_drop, if_pos h, ncs_append]
  simp [ncs]
/-- the first k are copied -/
structure Cp (w wr : World) (g : Nat) (L M : NL) (k : Nat) : Prop where
  mn : Mn w wr [(g, 25, ncs M)] (M.take k)
  len : M.length = L.length
  tr : tr (M.take k) = (tr L).take k
/-- a row of nodes of one's own, in a block g, their paths, too -/
structure Ob (w : World) (B g : Nat) (M : NL) : Prop where
  lies : w.heap[g]? = some (bv 25 (ncs M))
  own : B ≤ g
  on : ∀ q ∈ M, On w B q.1 q.2
set_option maxHeartbeats 4000000 in
theorem copyAll_any (v : Value) (L : NL) (w : World) (h : Rt w v L) (h48 : ok48 L) (hl : L.length ≤ 1000) : Calls Try.prog 20 #[v] w fun e u => ∃ g M, e = .returned (.slice (some ⟨g, 0, none⟩) L.length L.length) ∧ tr M = tr L ∧ Ob u w.heap.size g M ∧ Below w.heap.size w u := by
  obtain ⟨a, c, rfl, hlc, hcm⟩ := h.form
  have HAT : Hid (∀ k q, L[k]? = some q → ∃ g off, a = some ⟨g, off, none⟩ ∧ ∀ u, Below w.heap.size w u → u.rangeAt g (off + k * 4) (ncl q.1 q.2) ∧ Ris u q.1 q.2.1) := fun k q hq => h.at k q hq
  have HCO : Hid (∀ q ∈ L, ∀ u, Ris u q.1 q.2.1 → Calls Try.prog 21 #[agv (ncl q.1 q.2)] u fun e u' => ∃ v', e = .returned (agv (ncl v' q.2)) ∧ On u' u.heap.size v' q.2 ∧ Below u.heap.size u u') := fun q hq u hr => copyOf_any q.1 q.2 u hr (h48 q hq)
  obtain ⟨n, hn⟩ : ∃ n, L.length = n := ⟨_, rfl⟩
  have HN : Hid (L.length = n ∧ (tr L).length = n) := ⟨hn, by rw [tr_len, hn]⟩
  rw [hn] at hlc hl ⊢
  unfold maxLen at hcm
  have hM := Mn.nil w
  have HL : Hid (n ≤ 1000) := hl
  clear h hn h48
  go_enter Try.func20, Try.ntmps20
  repeat' (first | (go_big_may; first | (refine v_maken rfl rfl rfl rfl HL.out ?_; intro u gr hN; replace hM := hM.new hN; clear hN)) | go_values | go_skip | go_guarded | go_step | go_upon | (simp only [Int.not_lt, Int.not_le] at *; go_simp))
  have HM : Hid (∃ M, Cp w u gr L M 0) := ⟨_, ⟨by simpa using hM, by rw [List.length_replicate]; exact HN.out.1.symm, rfl⟩⟩
  clear hM
  go_loopw [4, 5, 11] (fun _ _ i wr => ∃ k : Nat, k ≤ n ∧ i = .int .i64 (k : Int) ∧ Hid (∃ M, Cp w wr gr L M k)) (fun _ _ i _ => n - (intOf i).toNat)
  case atStart => exact ⟨0, Nat.zero_le _, rfl, HM.out⟩
  case round =>
    clear HM
    obtain ⟨k, hk, rfl, HA⟩ := hrel
    obtain ⟨M, hC⟩ := HA.out
    have hM := hC.mn
    have hlen := hC.len
    have htr := hC.tr
    clear HA hC
    by_cases hlt : ¬ k < n
    · have HQ : Hid (∃ M, tr M = tr L ∧ Ob wr w.heap.size gr M ∧ Below w.heap.size w wr) := by
        rw [List.take_of_length_le (by have := HN.out; omega)] at hM htr
        rw [List.take_of_length_le (by have := HN.out; omega)] at htr
        exact ⟨M, htr, ⟨hM.at0, hM.mm.own (gr, 25, ncs M) (by simp), hM.on⟩, hM.below⟩
      clear HAT HCO hM hlen htr
      go_wp2
      go_ret
      obtain ⟨M, q2⟩ := HQ.out
      exact ⟨gr, M, rfl, q2⟩
    have hlt : k < n := by omega
    obtain ⟨⟨qv, m⟩, hq⟩ : ∃ q, L[k]? = some q := ⟨_, List.getElem?_eq_getElem (by have := HN.out; omega)⟩
    obtain ⟨g, off, rfl, hat⟩ := HAT.out k _ hq
    have HRG : Hid (∀ u, Below w.heap.size w u → u.rangeAt g (off + k * 4) (ncl qv m)) := fun u hb => (hat u hb).1
    have HVQ : Hid (Vs (ncl qv m) 4) := ncl_vs m (ris_one (hat w (Below.refl _ _)).2)
    have HCO2 : Hid (∀ u, Below w.heap.size w u → Calls Try.prog 21 #[agv (ncl qv m)] u fun e u' => ∃ v', e = .returned (agv (ncl v' m)) ∧ On u' u.heap.size v' m ∧ Below u.heap.size u u') := fun u hb => HCO.out (qv, m) (List.mem_of_getElem? hq) u (hat u hb).2
    have hkM : k < M.length := by have := HN.out; omega
    have HX : Hid (∀ v' u, Mn w u [(gr, 25, ncs (M.set k (v', m)))] ((v', m) :: M.take k) → Cp w u gr L (M.set k (v', m)) (k + 1)) := fun v' u hu => by
      have e : (M.set k (v', m)).take (k + 1) = M.take k ++ [(v', m)] := by
        rw [List.take_succ_eq_append_getElem (by rw [List.length_set]; exact hkM), List.take_set_of_le (Nat.le_refl _), List.getElem_set_self]
      refine ⟨?_, by rw [List.length_set]; exact hlen, ?_⟩
      · rw [e]
        exact hu.few fun q hq => by
          rcases List.mem_append.1 hq with r | r
          · exact List.mem_cons_of_mem _ r
          · rw [List.mem_singleton.1 r]; exact List.mem_cons_self
      · have hkt := tr_at hq
        obtain ⟨ht1, ht2⟩ := List.getElem?_eq_some_iff.1 hkt
        rw [e, List.take_succ_eq_append_getElem ht1, ht2, ← htr]
        simp [tr]
    have HLE : Hid (k * 4 + 4 ≤ (ncs M).length) := by show _ ≤ _; rw [ncs_length]; omega
    have HPT : Hid (∀ v', ptv (ncs M) (k * 4) (ncl v' m) = ncs (M.set k (v', m))) := fun v' => ptv_ncs (q := (v', m)) hkM
    clear HAT HCO hat hq hlen htr hkM
    repeat' (first | (go_big_may; first | (refine v_ldR rfl rfl row_node rfl (HRG.out _ hM.below) rfl ?_) | (refine v_alloc rfl zer_node rfl ?_; intro u xn hN; replace hM := hM.new hN; clear hN) | (refine v_fill rfl rfl row_node rfl rfl hM.at0 HVQ.out rfl ?_; intro u hv hc; replace hM := hM.put0 hc hv; clear hv hc) | (refine v_load rfl rfl row_node rfl hM.at0 (Nat.le_refl 4) rfl ?_)) | go_values | go_skip | go_guarded | go_step | go_upon | (simp only [Int.not_lt, Int.not_le] at *; go_simp))
    refine (HCO2.out _ hM.below).mono ?_
    rintro e u2 ⟨v', rfl, ho, hb⟩
    have hM2 := (hM.call hb).add (ho.mono hM.below.size)
    have HV : Hid (Vs (ncl v' m) 4) := ncl_vs m (ris_one ho.ris)
    have HPT2 : Hid (ptv (ncs M) (k * 4) (ncl v' m) = ncs (M.set k (v', m))) := HPT.out v'
    replace hM := hM2
    clear ho hb HCO2 hM2 HPT
    repeat' (first | (go_big_may; first | (refine v_store rfl rfl row_node rfl rfl hM.at1 HV.out HLE.out HPT2.out ?_; intro u hv hc; replace hM := hM.put1 hc hv; clear hv hc)) | go_values | go_skip | go_guarded | go_step | go_upon | (simp only [Int.not_lt, Int.not_le] at *; go_simp))
    have HQ : Hid (∃ M, Cp w u gr L M (k + 1)) := ⟨_, HX.out v' u (hM.sub (by simp))⟩
    clear hM HX HLE HV HPT2
    repeat' (first | go_values | go_skip | go_guarded | go_step | go_upon | (simp only [Int.not_lt, Int.not_le] at *; go_simp))
    go_roundw
    case rel => exact ⟨k + 1, by omega, by go_num, HQ.out⟩
    case measure => simp [intOf]; omega
end Go.Proofs.Ytemlafdmeaobfab.topo
