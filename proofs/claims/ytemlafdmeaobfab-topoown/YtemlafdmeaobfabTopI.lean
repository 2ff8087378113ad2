/- topo: what slices.Insert answers where the row is full. -/
import Derived.Test.YtemlafdmeaobfabTopH
namespace Go.Proofs.Ytemlafdmeaobfab.topo
open Go Go.RowKit Go.Proofs.Ytemlafdmeaobfab.route
set_option linter.unusedVariables false
set_option linter.unusedSimpArgs false
set_option maxRecDepth 100000

/-- the value v owns these nodes, in a block from B on -/
def Ow (w : World) (B : Nat) (v : Value) (M : NL) : Prop := w.ownsRow B 25 4 v M.length (ncs M)
theorem Ow.nil (w : World) (B : Nat) : Ow w B (.slice none 0 0) [] := ⟨rfl, .inl ⟨rfl, rfl⟩⟩
theorem Ow.below {w u : World} {B : Nat} {v : Value} {M : NL} (h : Ow w B v M) (hb : Below w.heap.size w u) : Ow u B v M := by
  cases hv : v.ownBlock with
  | none => exact World.ownsRow.kept h (grown_below hb) (.inl hv)
  | some k => exact World.ownsRow.kept h (grown_below hb) (.inr (by rw [hv]; simp))
theorem Ow.mono {w : World} {B B' : Nat} {v : Value} {M : NL} (h : Ow w B v M) (hb : B' ≤ B) : Ow w B' v M := by
  refine ⟨h.1, ?_⟩
  rcases h.2 with q | ⟨g, cap, cur, q1, q2, q3⟩
  · exact .inl q
  · exact .inr ⟨g, cap, cur, q1, Nat.le_trans hb q2, q3⟩
theorem Ow.rcl {w : World} {B : Nat} {v : Value} {M : NL} (h : Ow w B v M) : Rcl w v M.length (ncs M) := by
  have h' := h
  rcases h.2 with ⟨rfl, h0⟩ | ⟨g, cap, cur, rfl, hB, hg, hnc, hcm, hs, ht⟩
  · exact ⟨none, 0, by rw [h0], by omega, Nat.zero_le _, fun q => by omega⟩
  · refine ⟨_, cap, rfl, hnc, hcm, fun _ => ⟨g, 0, rfl, (Array.getElem?_eq_some_iff.1 hg).1, fun j x hx => ?_⟩⟩
    have hj := (List.getElem?_eq_some_iff.1 hx).1
    rw [ncs_length] at hj
    rw [Nat.zero_add, World.ownsRow.cellAt h' j (by omega)]
    exact hx
theorem Ow.rt {w : World} {B : Nat} {v : Value} {M : NL} (h : Ow w B v M) (ho : ∀ q ∈ M, On w B q.1 q.2) : Rt w v M := ⟨h.rcl, fun q hq => (ho q hq).ris⟩
/-- a block whose first cells are these nodes -/
theorem ow_of {w : World} {B g cap : Nat} {M : NL} {rest : List Value} (h : w.heap[g]? = some (bv 25 (ncs M ++ rest))) (hB : B ≤ g) (hl : (ncs M ++ rest).length = cap * 4) (hc : cap ≤ maxLen) : Ow w B (.slice (some ⟨g, 0, none⟩) M.length cap) M := by
  refine ⟨ncs_length M, .inr ⟨g, cap, _, rfl, hB, h, ?_, hc, by simpa using hl, ?_⟩⟩
  · rw [List.length_append, ncs_length] at hl; omega
  · rw [← ncs_length M]
    simp
theorem ob_ow {w : World} {B g : Nat} {M : NL} (h : Ob w B g M) (hm : M.length ≤ maxLen) : Ow w B (.slice (some ⟨g, 0, none⟩) M.length M.length) M := ow_of (rest := []) (by rw [List.append_nil]; exact h.lies) h.own (by rw [List.append_nil, ncs_length]) hm
theorem run_copyN {P : Program} (w : World) (dT sT ty elem : TypeId) (g o dLen dCap : Nat) (a : Addr) (sLen sCap : Nat) (l : List Value) (t : TypeId) (cs : List Value)
    (hu : P.underlying dT = some (.slice elem)) (hs : (P.info? elem).map (·.size) = some 4)
    (hg : w.heap[g]? = some (bv t l)) (hn : cs.length = Nat.min sLen dLen * 4)
    (hsrc : ∀ j v, cs[j]? = some v → w.cell? (a.add j) = some v) (hfit : o + cs.length ≤ l.length) (h1 : ∀ v ∈ cs, v.oneCell' = true) :
    (Builtin.copy_ #[dT, sT] ty #[.slice (some ⟨g, o, none⟩) dLen dCap, .slice (some a) sLen sCap]).run P w =
      .ok (goInt (Nat.min sLen dLen)) (w.setRow g (ptv l o cs).toArray) := by
  have hl := run_loadCells_list (P := P) w a cs hsrc
  have hst := run_storeCells_at P g o t cs 0 l.toArray w hg (by simpa using hfit) h1
  cases hq : P.info? elem with
  | none => simp [hq] at hs
  | some i =>
    have hi : i.size = 4 := by simpa [hq] using hs
    simp [Builtin.copy_, run_underlying hu, Builtin.lenOf, Builtin.firstCells, sizeOf, typeInfo, hq, hi, ← hn, hl, hst, ptv]
theorem ex_copy {P : Program} {o : Oper} {a : Act} {w w' : World} (d s : Operand) (t t' : TypeId) (ho : o.op = .call { callee := .builtin .copy, args := #[d, s], argTypes := #[t, t'] }) (v u v' : Value) (hd : a.eval d = v) (hs : a.eval s = u)
    (hr : (Builtin.copy_ #[t, t'] o.type #[v, u]).run P w = .ok v' w') : (execOp a.eval o).run P w = .ok (.value v') w' := by
  unfold execOp
  simp only [ho, resolve, invoke, builtin, Sem.run_bind, Sem.run_pure, Result.andThen_ok, List.map_toArray, List.map_cons, List.map_nil, hd, hs, hr]
theorem wpList_copy {P : Program} {ops : Array Oper} {rest : List Oper} {o : Oper} {a : Act} {Q : Exit → Act → World → Prop} (w : World) (hgd : o.guard = none) (d s : Operand) (t t' : TypeId)
    (ho : o.op = .call { callee := .builtin .copy, args := #[d, s], argTypes := #[t, t'] }) (v u : Value) (hd : a.eval d = v) (hs : a.eval s = u) {v' : Value} {w' : World}
    (hr : (Builtin.copy_ #[t, t'] o.type #[v, u]).run P w = .ok v' w') (h : wpList P ops Q rest (a.put o.dst v') w') : wpList P ops Q (o :: rest) a w := by
  refine wpList_plain hgd fun K hK => ?_
  unfold Oper.wp
  rw [ex_copy d s t t' ho v u v' hd hs hr]
  exact hK _ _ h
theorem sizeN : (Try.prog.info? 25).map (·.size) = some 4 := by kernel_rfl
theorem slc_from {g n c k : Nat} (hk : k ≤ n) (hc : k < c) (W : World) : (Instr.slice 22 (.slice (some ⟨g, 0, none⟩) n c) (some (.int .i64 (k : Int))) none none).run Try.prog W = .ok (.slice (some ⟨g, k * 4, none⟩) (n - k) (c - k)) W := by
  have := run_slice_l (P := Try.prog) (w := W) 22 (some ⟨g, 0, none⟩) n c Try.underlying22 .i64 (k : Int) (by omega) (by omega)
  rw [this]
  simp [go_sem, sliced, Addr.add_lit, show ¬ c = k by omega]
theorem slc_some {g n c k : Nat} (hk : k ≤ n) : ∃ A, ∀ W, (Instr.slice 22 (.slice (some ⟨g, 0, none⟩) n c) (some (.int .i64 (k : Int))) none none).run Try.prog W = .ok A W := by
  refine ⟨sliced (some ⟨g, 0, none⟩) k n c 4, fun W => ?_⟩
  have := run_slice_l (P := Try.prog) (w := W) 22 (some ⟨g, 0, none⟩) n c Try.underlying22 .i64 (k : Int) (by omega) (by omega)
  rw [this]
  simp [go_sem, sliced]
theorem slc_upto {g n c k : Nat} (hk : k ≤ c) (W : World) : (Instr.slice 22 (.slice (some ⟨g, 0, none⟩) n c) none (some (.int .i64 (k : Int))) none).run Try.prog W = .ok (.slice (some ⟨g, 0, none⟩) k c) W := by
  have := run_slice_h (P := Try.prog) (w := W) 22 (some ⟨g, 0, none⟩) n c Try.underlying22 .i64 (k : Int) (by omega) (by omega)
  rw [this]
  simp [go_sem, sliced, Addr.add_lit]
theorem ncs_one {M : NL} (h : ∀ q ∈ M, q.1.oneCell' = true) : ∀ v ∈ ncs M, v.oneCell' = true := fun v hv => by
  obtain ⟨q, hq, hx⟩ := List.mem_flatMap.1 hv
  exact (ncl_vs q.2 (h q hq)).one v hx
theorem bv_src {w : World} {g : Nat} {T : TypeId} {l : List Value} (h : w.heap[g]? = some (bv T l)) (k : Nat) : ∀ j v, (l.drop k)[j]? = some v → w.cell? ((⟨g, k, none⟩ : Addr).add j) = some v := fun j v hj => by
  rw [Addr.add_lit]
  rw [List.getElem?_drop] at hj
  exact bv_cell h hj
theorem ptv_app (A Z r : List Value) {k : Nat} (hk : A.length = k) : ptv (A ++ Z) k r = A ++ (r ++ Z.drop r.length) := by
  subst hk
  unfold ptv
  rw [List.take_left, List.drop_length_add_append, List.append_assoc]
theorem ex_slc {o : Oper} {a : Act} {W : World} {x y : Operand} (ho : o.op = .slice 22 x (some y) none none) {vx vy v : Value} (hx : a.eval x = vx) (hy : a.eval y = vy) (hr : (Instr.slice 22 vx (some vy) none none).run Try.prog W = .ok v W) :
    (execOp a.eval o).run Try.prog W = .ok (.value v) W := by
  have hr2 : (Instr.sliceAt 22 vx (some vy) none none).run Try.prog W = .ok v W := by rw [run_sliceAt_slice (h := Try.underlying22)]; exact hr
  unfold execOp
  simp [ho, hx, hy, Sem.run_bind, hr2, Result.andThen_ok, Sem.run_pure]
theorem zeroCells_size (z : Array Value) (k : Nat) : (Builtin.zeroCells z k).toList.length = k * z.size := by
  simp [Builtin.zeroCells]
/-- in the k-th place -/
def insM (M : NL) (k : Nat) (q : Value × Nd) : NL := M.take k ++ q :: M.drop k
theorem insM_len {M : NL} {k n : Nat} {q : Value × Nd} (hn : M.length = n) (hk : k ≤ n) : (insM M k q).length = n + 1 := by unfold insM; simp; omega
theorem ncs_insM (M : NL) (k : Nat) (q : Value × Nd) : ncs (insM M k q) = ncs (M.take k) ++ (ncl q.1 q.2 ++ ncs (M.drop k)) := by
  unfold insM
  rw [ncs_append]
  rfl
set_option maxHeartbeats 4000000 in
theorem insert_any (g n k gv : Nat) (M : NL) (q : Value × Nd) (w : World) (hg : w.heap[g]? = some (bv 25 (ncs M))) (hn : M.length = n) (hn2 : n ≤ 1000) (hk : k ≤ n) (hv : w.heap[gv]? = some (bv 25 (ncl q.1 q.2))) (h1 : q.1.oneCell' = true) (h2 : ∀ x ∈ M, x.1.oneCell' = true) :
    Calls Try.prog 19 #[.slice (some ⟨g, 0, none⟩) n n, .int .i64 (k : Int), .slice (some ⟨gv, 0, none⟩) 1 1] w fun e u => ∃ v, e = .returned v ∧ Ow u w.heap.size v (insM M k q) ∧ Below w.heap.size w u := by
  obtain ⟨i0, hi, hz0, hz1, hz2⟩ := info_parts' infoN
  have hcsl := ncs_length M
  have hone := ncs_one h2
  have honeq := (ncl_vs q.2 h1).one
  have hzs : ((agv (ncl nilS zN)).cells).size = 4 := rfl
  obtain ⟨N, hN⟩ : ∃ N, n + 1 = N := ⟨_, rfl⟩
  obtain ⟨A1, hA1⟩ := slc_some (g := g) (c := n) hk
  have hnx : Builtin.nextslicecap N n * i0.bytes ≤ 281474976710656 := growslice_fits (by omega) (by rw [hz2]; omega)
  have hGn : N ≤ grownCap w N n 25 := grownCap_ge w _ _ _
  have hG63 : grownCap w N n 25 ≤ maxLen := grownCap_le_maxLen w N n 25 (by unfold maxLen; omega)
  by_cases hkn : k = n
  · subst hkn
    obtain ⟨v', w', hr, how, hbl⟩ : ∃ v' w', (∀ ty, (Builtin.append_ #[22, 22] ty #[.slice (some ⟨g, 0, none⟩) k k, .slice (some ⟨gv, 0, none⟩) 1 1]).run Try.prog w = .ok v' w') ∧ Ow w' w.heap.size v' (insM M k q) ∧ Below w.heap.size w w' := by
      have hr := fun ty => run_append_grow (P := Try.prog) w 22 ty 25 i0 _ Try.underlying22 hi hz0 ⟨g, 0, none⟩ k k (ncs M) (by rw [hz1, hcsl, hn]) (fun j v hj => by have := bv_src hg 0 j v (by simpa using hj); exact this) ⟨gv, 0, none⟩ 1 1 (ncl q.1 q.2) (by rw [hz1]; rfl) (fun j v hj => by have := bv_src hv 0 j v (by simpa using hj); exact this) (by omega) (by omega) (by rw [hN]; exact hnx)
      simp only [hN] at hr
      refine ⟨_, _, hr, ?_, ?_⟩
      · have e : insM M k q = M ++ [q] := by unfold insM; rw [List.take_of_length_le (by omega), List.drop_of_length_le (by omega)]
        have el : (insM M k q).length = N := by rw [insM_len hn (Nat.le_refl _)]; exact hN
        rw [← el] at hGn hG63 ⊢
        refine ow_of (M := insM M k q) (rest := (Builtin.zeroCells (agv (ncl nilS zN)).cells (grownCap w (insM M k q).length k 25 - (insM M k q).length)).toList) ?_ (Nat.le_refl _) ?_ hG63
        · have := (MapKept.heap_alloc w.drew (.cells ((ncs M).toArray ++ (ncl q.1 q.2).toArray ++ Builtin.zeroCells (agv (ncl nilS zN)).cells (grownCap w (insM M k q).length k 25 - (insM M k q).length)) 25)).1
          refine Eq.trans this ?_
          unfold bv
          rw [e, ncs_append]
          congr 2
          apply Array.ext'
          simp [ncs]
        · rw [List.length_append, ncs_length, zeroCells_size, hzs]
          have := hGn
          omega
      · exact ((Below.refl _ _).drew.alloc (Nat.le_refl _) _)
    have HR : Hid (∀ ty, (Builtin.append_ #[22, 22] ty #[.slice (some ⟨g, 0, none⟩) k k, .slice (some ⟨gv, 0, none⟩) 1 1]).run Try.prog w = .ok v' w') := hr
    have HO : Hid (Ow w' w.heap.size v' (insM M k q) ∧ Below w.heap.size w w') := ⟨how, hbl⟩
    clear hr how hbl hcsl hone honeq hg hv hnx hGn hG63 hN hi hz0 hz1 hz2 h1 h2 hn
    have hkk : ((k : Int) == (k : Int)) = true := by simp
    go_enter Try.func19, Try.ntmps19
    go_wp2_with (at_builtin; refine Lib.wpList_append_run _ rfl _ _ _ _ rfl _ _ rfl rfl _ _ (HR.out _) ?_)
    go_wp2
    go_ret
    exact ⟨_, rfl, HO.out.1, HO.out.2⟩
  have hkn : k < n := by omega
  obtain ⟨D, hD⟩ : ∃ D, N - k = D := ⟨_, rfl⟩
  obtain ⟨G, hG⟩ : ∃ G, grownCap w N n 25 = G := ⟨_, rfl⟩
  obtain ⟨g1, hg1⟩ : ∃ g1, w.heap.size = g1 := ⟨_, rfl⟩
  obtain ⟨Z, hZ⟩ : ∃ Z, (Builtin.zeroCells (agv (ncl nilS zN)).cells D).toList ++ (Builtin.zeroCells (agv (ncl nilS zN)).cells (G - N)).toList = Z := ⟨_, rfl⟩
  have hZl : Z.length = D * 4 + (G - N) * 4 := by rw [← hZ, List.length_append, zeroCells_size, zeroCells_size, hzs]
  have htl : (ncs (M.take k)).length = k * 4 := by rw [ncs_length, List.length_take]; omega
  have hdl : (ncs (M.drop k)).length = (n - k) * 4 := by rw [ncs_length, List.length_drop, hn]
  have hold : (Builtin.firstCells i0.size k (.slice (some ⟨g, 0, none⟩) k n)).run Try.prog w.drew = .ok (ncs (M.take k)).toArray w.drew := by
    rw [hz1]
    refine run_firstCells_some w.drew 4 k ⟨g, 0, none⟩ k n (ncs (M.take k)) htl (fun j v hj => ?_)
    rw [← ncs_take, List.getElem?_take] at hj
    split at hj
    · exact bv_src hg 0 j v (by simpa using hj)
    · cases hj
  have hrz := fun ty => Lib.run_append_grow_zeros (P := Try.prog) w 22 3 ty 25 i0 _ .i64 .i64 Try.underlying22 Try.underlying3 hi hz0 (some ⟨g, 0, none⟩) k n (ncs (M.take k)) hold D (by omega) (by omega) (by omega) (by omega) (by rw [hz2]; omega) (by rw [show k + D = N by omega]; exact hnx)
  simp only [show k + D = N by omega, hG] at hrz
  obtain ⟨W1, hW1⟩ : ∃ W1, w.drew.alloc (.cells ((ncs (M.take k)).toArray ++ Builtin.zeroCells (agv (ncl nilS zN)).cells D ++ Builtin.zeroCells (agv (ncl nilS zN)).cells (G - N)) 25) = W1 := ⟨_, rfl⟩
  rw [hW1] at hrz
  have hb1 : Below w.heap.size w W1 := by rw [← hW1]; exact ((Below.refl _ _).drew.alloc (Nat.le_refl _) _)
  have hl1 : W1.heap[g1]? = some (bv 25 (ncs (M.take k) ++ Z)) := by
    rw [← hW1, ← hg1]
    refine Eq.trans (MapKept.heap_alloc w.drew _).1 ?_
    unfold bv
    congr 2
    apply Array.ext'
    rw [← hZ]
    simp
  have hg1w : w.heap.size ≤ g1 := by omega
  obtain ⟨W2, hW2⟩ : ∃ W2, W1.setRow g1 (ptv (ncs (M.take k) ++ Z) (k * 4) (ncl q.1 q.2)).toArray = W2 := ⟨_, rfl⟩
  have hp1 : ptv (ncs (M.take k) ++ Z) (k * 4) (ncl q.1 q.2) = ncs (M.take k) ++ (ncl q.1 q.2 ++ Z.drop 4) := ptv_app _ _ _ htl
  have hl2 : W2.heap[g1]? = some (bv 25 ((ncs (M.take k) ++ ncl q.1 q.2) ++ Z.drop 4)) := by
    rw [← hW2, List.append_assoc, ← hp1]
    exact setRow_heap W1 g1 _ _ 25 _ hl1
  have hc2 : Chg g1 W1 W2 := by rw [← hW2]; exact setRow_chg _ hl1
  have hb2 : Below w.heap.size w W2 := hc2.below _ _ hg1w hb1
  have hcp1 : ∀ ty, (Builtin.copy_ #[22, 22] ty #[.slice (some ⟨g1, k * 4, none⟩) D (G - k), .slice (some ⟨gv, 0, none⟩) 1 1]).run Try.prog W1 = .ok (goInt 1) W2 := fun ty => by
    have hm : Nat.min 1 D = 1 := by simp only [Nat.min_def]; split <;> omega
    have := run_copyN (P := Try.prog) W1 22 22 ty 25 g1 (k * 4) D (G - k) ⟨gv, 0, none⟩ 1 1 (ncs (M.take k) ++ Z) 25 (ncl q.1 q.2) Try.underlying22 sizeN hl1 (by rw [hm]; rfl) (fun j v hj => bv_src (keep hv hb1) 0 j v (by simpa using hj)) (by rw [List.length_append, htl, hZl]; simp [ncl]; omega) honeq
    rw [hm, hW2] at this
    exact this
  have hA : (ncs (M.take k) ++ ncl q.1 q.2).length = (k + 1) * 4 := by rw [List.length_append, htl]; simp [ncl]; omega
  have hcp2 : ∀ (W : World), W.heap[g1]? = some (bv 25 ((ncs (M.take k) ++ ncl q.1 q.2) ++ Z.drop 4)) → Below w.heap.size w W → ∃ W3, (∀ ty, (Builtin.copy_ #[22, 22] ty #[.slice (some ⟨g1, (k + 1) * 4, none⟩) (N - (k + 1)) (G - (k + 1)), .slice (some ⟨g, k * 4, none⟩) (n - k) (n - k)]).run Try.prog W = .ok (goInt ((n - k : Nat) : Int)) W3) ∧ Ow W3 w.heap.size (.slice (some ⟨g1, 0, none⟩) N G) (insM M k q) ∧ Below w.heap.size w W3 := fun W hW hb => by
    have hm : Nat.min (n - k) (N - (k + 1)) = n - k := by simp only [Nat.min_def]; split <;> omega
    have hr := fun ty => run_copyN (P := Try.prog) W 22 22 ty 25 g1 ((k + 1) * 4) (N - (k + 1)) (G - (k + 1)) ⟨g, k * 4, none⟩ (n - k) (n - k) _ 25 (ncs (M.drop k)) Try.underlying22 sizeN hW (by rw [hm, hdl]) (fun j v hj => by rw [← ncs_drop] at hj; exact bv_src (keep hg hb) (k * 4) j v hj) (by rw [List.length_append, hA, List.length_drop, hZl, hdl]; omega) (fun v hv => hone v (by rw [← ncs_drop] at hv; exact List.mem_of_mem_drop hv))
    simp only [hm] at hr
    refine ⟨_, hr, ?_, (setRow_chg _ hW).below _ _ hg1w hb⟩
    have hp2 := ptv_app (ncs (M.take k) ++ ncl q.1 q.2) (Z.drop 4) (ncs (M.drop k)) hA
    have hl3 := setRow_heap W g1 _ (ptv ((ncs (M.take k) ++ ncl q.1 q.2) ++ Z.drop 4) ((k + 1) * 4) (ncs (M.drop k))).toArray 25 _ hW
    have el : (insM M k q).length = N := by rw [insM_len hn hk]; exact hN
    have hrow : ptv ((ncs (M.take k) ++ ncl q.1 q.2) ++ Z.drop 4) ((k + 1) * 4) (ncs (M.drop k)) = ncs (insM M k q) ++ (Z.drop 4).drop (ncs (M.drop k)).length := by
      rw [hp2, ncs_insM]
      simp
    rw [hrow] at hl3 ⊢
    have := ow_of (M := insM M k q) (B := w.heap.size) (cap := G) hl3 hg1w (by rw [List.length_append, ncs_length, el, List.length_drop, List.length_drop, hZl, hdl]; omega) (by rw [← hG]; exact hG63)
    rw [el] at this
    exact this
  have hs2 := fun W => slc_upto (g := g) (n := n) (c := n) (k := k) hk W
  have hs3 := fun W => slc_from (g := g1) (n := N) (c := G) (k := k) (by omega) (by omega) W
  rw [hD] at hs3
  have hs4 := fun W => slc_from (g := g1) (n := N) (c := G) (k := k + 1) (by omega) (by omega) W
  have hs5 := fun W => slc_from (g := g) (n := n) (c := n) (k := k) hk hkn W
  obtain ⟨K, hK⟩ : ∃ K, k + 1 = K := ⟨_, rfl⟩
  obtain ⟨E, hE⟩ : ∃ E, n - k = E := ⟨_, rfl⟩
  obtain ⟨F, hF⟩ : ∃ F, N - K = F := ⟨_, rfl⟩
  obtain ⟨G1, hG1⟩ : ∃ x, G - k = x := ⟨_, rfl⟩
  obtain ⟨G2, hG2⟩ : ∃ x, G - K = x := ⟨_, rfl⟩
  simp only [hK, hE, hF, hG1, hG2] at hcp1 hcp2 hs3 hs4 hs5
  have HR : Hid (∀ ty, (Builtin.append_ #[22, 3] ty #[.slice (some ⟨g, 0, none⟩) k n, .int .i64 (D : Int)]).run Try.prog w = .ok (.slice (some ⟨g1, 0, none⟩) N G) W1) := by rw [hg1] at hrz; exact hrz
  have hC1 : (∀ ty, (Builtin.copy_ #[22, 22] ty #[.slice (some ⟨g1, k * 4, none⟩) D G1, .slice (some ⟨gv, 0, none⟩) 1 1]).run Try.prog W1 = .ok (goInt 1) W2) := hcp1
  obtain ⟨W3, hC2, how, hbl⟩ := hcp2 W2.drew hl2 hb2.drew
  have HC2 : Hid (∀ ty, (Builtin.copy_ #[22, 22] ty #[.slice (some ⟨g1, K * 4, none⟩) F G2, .slice (some ⟨g, k * 4, none⟩) E E]).run Try.prog W2.drew = .ok (goInt (E : Int)) W3) := hC2
  have HO : Hid (Ow W3 w.heap.size (.slice (some ⟨g1, 0, none⟩) N G) (insM M k q) ∧ Below w.heap.size w W3) := ⟨how, hbl⟩
  have en : ((k : Int) == (n : Int)) = false := by rw [beq_eq_false_iff_ne]; omega
  have eN : (n : Int) + 1 = (N : Int) := by omega
  have eD : (N : Int) - (k : Int) = (D : Int) := by omega
  have eK : (k : Int) + 1 = (K : Int) := by omega
  have hnN : n < N := by omega
  have hNb : N ≤ 1001 := by omega
  have hKb : K ≤ 1001 := by omega
  clear hcp1 hcp2 hC2 how hbl hrz hold hW1 hW2 hb1 hb2 hl1 hl2 hc2 hp1 hA hZl hZ htl hdl hcsl hone honeq hg hv hnx hGn hG63 hN hi hz0 hz1 hz2 h1 h2 hn hD hG hg1 hg1w hK hE hF hG1 hG2
  go_enter Try.func19, Try.ntmps19
  go_upto_region 11 with (at_builtin; refine Lib.wpList_append_run _ rfl _ _ _ _ rfl _ _ rfl rfl _ _ (HR.out _) ?_)
  refine wp_abs (fun a0 => a0.tmps.size = 95 ∧ (∀ h, a0.tmps[0]'h = .slice (some ⟨g, 0, none⟩) n n) ∧ (∀ h, a0.tmps[1]'h = .int .i64 (k : Int)) ∧ (∀ h, a0.tmps[7]'h = .int .i64 1) ∧ (∀ h, a0.tmps[9]'h = .slice (some ⟨g1, 0, none⟩) N G)) ⟨rfl, fun _ => rfl, fun _ => rfl, fun _ => rfl, fun _ => rfl⟩ ?_
  rintro a0 ⟨hsz, s0, s1, s7, s9⟩ ha0
  refine wp_region_held (S := fun W => True) (by kernel_rfl) ?_
  obtain ⟨ud, hud⟩ : ∃ ud, W2.drew = ud := ⟨_, rfl⟩
  have HC3 : Hid (∀ ty, (Builtin.copy_ #[22, 22] ty #[.slice (some ⟨g1, K * 4, none⟩) F G2, .slice (some ⟨g, k * 4, none⟩) E E]).run Try.prog ud = .ok (goInt (E : Int)) W3) := by rw [← hud]; exact HC2
  show wpAnyH _ _ _ _ _ _ _ _ W2.drew
  rw [hud]
  have wK : IntKind.i64.wrap (K : Int) = (K : Int) := by rw [IntKind.wrap_i64]; omega
  refine h_take (i := 0) (.slice (some ⟨g1, 0, none⟩) N G) rfl (by kernel_rfl) (by kernel_rfl) (by kernel_rfl) (fun _ _ _ h => h) rfl trivial (fun W hW => by simp [execOp, go_sem, Act.put, hsz, s0, s1, s7, s9, eK, wK]) ?_
  refine h_take (i := 1) (.int .i64 (k : Int)) rfl (by kernel_rfl) (by kernel_rfl) (by kernel_rfl) (fun _ _ _ h => h) rfl trivial (fun W hW => by simp [execOp, go_sem, Act.put, hsz, s0, s1, s7, s9, eK, wK]) ?_
  refine h_take (i := 2) (.int .i64 1) rfl (by kernel_rfl) (by kernel_rfl) (by kernel_rfl) (fun _ _ _ h => h) rfl trivial (fun W hW => by simp [execOp, go_sem, Act.put, hsz, s0, s1, s7, s9, eK, wK]) ?_
  refine h_take (i := 3) (.int .i64 (K : Int)) rfl (by kernel_rfl) (by kernel_rfl) (by kernel_rfl) (fun _ _ _ h => h) rfl trivial (fun W hW => by simp [execOp, go_sem, Act.put, hsz, s0, s1, s7, s9, eK, wK]) ?_
  refine h_take (i := 4) (.slice (some ⟨g1, K * 4, none⟩) F G2) rfl (by kernel_rfl) (by kernel_rfl) (by kernel_rfl) (fun _ _ _ h => h) rfl trivial (fun W hW => ex_slc rfl (by simp [go_sem, Act.put, hsz]) (by simp [go_sem, Act.put, hsz]) (hs4 W)) ?_
  refine h_take (i := 5) (.slice (some ⟨g, 0, none⟩) n n) rfl (by kernel_rfl) (by kernel_rfl) (by kernel_rfl) (fun _ _ _ h => h) rfl trivial (fun W hW => by simp [execOp, go_sem, Act.put, hsz, s0, s1, s7, s9, eK, wK]) ?_
  refine h_take (i := 6) (.int .i64 (k : Int)) rfl (by kernel_rfl) (by kernel_rfl) (by kernel_rfl) (fun _ _ _ h => h) rfl trivial (fun W hW => by simp [execOp, go_sem, Act.put, hsz, s0, s1, s7, s9, eK, wK]) ?_
  refine h_take (i := 7) (.slice (some ⟨g, k * 4, none⟩) E E) rfl (by kernel_rfl) (by kernel_rfl) (by kernel_rfl) (fun _ _ _ h => h) rfl trivial (fun W hW => ex_slc rfl (by simp [go_sem, Act.put, hsz]) (by simp [go_sem, Act.put, hsz]) (hs5 W)) ?_
  refine h_value (i := 8) (w' := W3) (goInt (E : Int)) rfl (by kernel_rfl) rfl (ex_copy _ _ _ _ rfl _ _ _ (by simp [go_sem, Act.put, hsz]) (by simp [go_sem, Act.put, hsz]) (HC3.out _)) trivial ?_
  refine wpAnyH_done (by kernel_rfl) ?_ _
  subst ha0
  clear hsz s0 s1 s7 s9 hud hC1 HC2 HC3 HR hs2 hs3 hs4 hs5 hA1
  go_simp
  go_wp2
  go_ret
  exact ⟨_, rfl, HO.out.1, HO.out.2⟩
end Go.Proofs.Ytemlafdmeaobfab.topo
