/- budget: what Plan keeps while it goes from task to task; steps of regions that draw. -/
import Derived.Test.YtcenaleladjakabBudJ
namespace Go.Proofs.Ytcenaleladjakab.budget
open Go Go.RowKit
set_option linter.unusedVariables false
set_option linter.unusedSimpArgs false
set_option maxRecDepth 100000

structure Pi (P : List Int) (M i : Nat) (B : List Bt) (U : List Nat) : Prop where
  mm : Mk P M ((ord P).take i) B
  ul : U.length = 8
  um : ∀ l, l < 8 → U.getD l 0 = msk (sOf P ((ord P).take i) B) l
  pl : plan P M = pln P M ((ord P).drop i) ((ord P).take i) B
theorem Pi.zero (P : List Int) (M : Nat) : Pi P M 0 (zB P.length) (List.replicate 8 0) where
  mm := by simpa using mk0 P M
  ul := by simp
  um := fun l hl => by
    rw [List.getD_eq_getElem?_getD, List.getElem?_replicate, if_pos hl]
    simp [sOf, msk]
  pl := by simp [plan]
theorem ord_len {P : List Int} (hP : okP P) : (ord P).length = P.length := by rw [(ord_perm hP).length_eq, List.length_range]
section
variable {P : List Int} {M i : Nat} {B : List Bt} {U : List Nat}
theorem Pi.task (hP : okP P) (hi : i < P.length) : ∃ t, (ord P)[i]? = some t ∧ t < P.length ∧ t ∉ (ord P).take i ∧ (ord P).drop i = t :: (ord P).drop (i + 1) ∧ (ord P).take (i + 1) = (ord P).take i ++ [t] := by
  have hl : i < (ord P).length := by rw [ord_len hP]; exact hi
  refine ⟨(ord P)[i], List.getElem?_eq_getElem hl, ord_mem (List.getElem_mem hl), ?_, List.drop_eq_getElem_cons hl, List.take_succ_eq_append_getElem hl⟩
  have := ord_nodup P
  rw [← List.take_append_drop i (ord P), List.nodup_append] at this
  intro q
  exact this.2.2 _ q _ (by rw [List.drop_eq_getElem_cons hl]; exact List.mem_cons_self) rfl
theorem Pi.none (h : Pi P M i B U) {t : Nat} (hd : (ord P).drop i = t :: (ord P).drop (i + 1)) (hf : fit (sOf P ((ord P).take i) B) (pN P t) M = none) : plan P M = none := by
  rw [h.pl, hd]
  unfold pln
  rw [hf]
theorem Pi.next (h : Pi P M i B U) (hP : okP P) (hM : M ≤ 8) {t k : Nat} (ht : t < P.length) (hn : t ∉ (ord P).take i) (hd : (ord P).drop i = t :: (ord P).drop (i + 1)) (hk : (ord P).take (i + 1) = (ord P).take i ++ [t]) (hf : fit (sOf P ((ord P).take i) B) (pN P t) M = some k) :
    Pi P M (i + 1) (B.set t (k / pN P t, k % pN P t)) (U.set (k / pN P t) (U.getD (k / pN P t) 0 ||| Go.Proofs.Ytcenaleladjakab.budget.mk (pN P t) (k % pN P t))) where
  mm := by rw [hk]; exact h.mm.next hP hn ht hf
  ul := by rw [List.length_set, h.ul]
  um := fun l hl => by
    rw [hk, sOf_snoc hn (by rw [h.mm.len]; exact ht), msk_snoc]
    have hlt : k / pN P t < 8 := Nat.lt_of_lt_of_le (cand (hP.at ht).1 (fit_is hf).1).ln hM
    by_cases e : k / pN P t = l
    · rw [if_pos e, e, List.getD_eq_getElem?_getD, List.getElem?_set_self (by rw [h.ul]; exact hl), ← h.um l hl]
      rfl
    · rw [if_neg e, List.getD_eq_getElem?_getD, List.getElem?_set_ne e, ← List.getD_eq_getElem?_getD, h.um l hl]
  pl := by
    rw [h.pl, hd, hk]
    conv => lhs; unfold pln
    rw [hf]
theorem Pi.done (h : Pi P M i B U) (hP : okP P) (hi : ¬ i < P.length) : plan P M = some B := by
  rw [h.pl, List.drop_eq_nil_of_le (by rw [ord_len hP]; omega)]
  rfl
end
def toI (B : List Bt) : List Bi := B.map fun b => ((b.1 : Int), (b.2 : Int))
theorem toI_set (B : List Bt) (t : Nat) (b : Bt) : toI (B.set t b) = (toI B).set t ((b.1 : Int), (b.2 : Int)) := by simp [toI, List.map_set]
theorem toI_len (B : List Bt) : (toI B).length = B.length := by simp [toI]
theorem bfl_set : ∀ (T : List Bi) (t : Nat) (b : Bi), t < T.length → bfl (T.set t b) = (bfl T).take (t * 2) ++ [b.1, b.2] ++ (bfl T).drop (t * 2 + 2)
  | [], t, b, h => by simp at h
  | x :: T, 0, b, h => rfl
  | x :: T, t + 1, b, h => by
    have e : ∀ y : Bi, ∀ R, bfl (y :: R) = y.1 :: y.2 :: bfl R := fun y R => rfl
    rw [List.set_cons_succ, e, e, bfl_set T t b (by simpa using h), show (t + 1) * 2 = t * 2 + 1 + 1 by omega]
    simp
theorem ptv_berth {B : List Bt} {t x y : Nat} (h : t < B.length) : ptv (ivs (bfl (toI B))) (t * 2) (ivs [(x : Int), (y : Int)]) = ivs (bfl (toI (B.set t (x, y)))) := by
  rw [toI_set, bfl_set _ _ _ (by rw [toI_len]; exact h)]
  simp [ptv, ivs]
theorem zero_plan (n : Nat) : ivs (bfl (toI (zB n))) = List.replicate (n * 2) (.int .i64 0) := by
  have : bfl (toI (zB n)) = List.replicate (n * 2) 0 := by
    unfold toI zB bfl
    induction n with
    | zero => rfl
    | succ n ih =>
      rw [List.replicate_succ, List.map_cons, List.flatMap_cons, ih, show (n + 1) * 2 = n * 2 + 1 + 1 by omega, List.replicate_succ, List.replicate_succ]
      rfl
  rw [this]
  simp [ivs]
theorem zer_taken : Zer 43 (uvs (List.replicate 8 0)) := ⟨by kernel_rfl⟩
theorem slc_used (g M : Nat) (h : M ≤ 8) (W : World) : (Instr.sliceAt 43 (.pointer (some ⟨g, 0, none⟩)) none (some (.int .i64 (M : Int))) none).run Try.prog W = .ok (.slice (some ⟨g, 0, none⟩) M 8) W := by
  rcases (by omega : M = 0 ∨ M = 1 ∨ M = 2 ∨ M = 3 ∨ M = 4 ∨ M = 5 ∨ M = 6 ∨ M = 7 ∨ M = 8) with rfl | rfl | rfl | rfl | rfl | rfl | rfl | rfl | rfl <;> kernel_rfl
section
variable {md : Region.Mode} {ops : Array Oper} {Q : Exit → Act → World → Prop} {S : World → Prop}
theorem ex_loadv {o : Oper} {a : Act} {W : World} {t : TypeId} {x : Operand} (ho : o.op = .load t x) {B k n : Nat} (hT : Row t n) (hx : a.eval x = .pointer (some ⟨B, k, none⟩)) {T : TypeId} {l r : List Value} (hB : W.heap[B]? = some (bv T l)) (hle : k + n ≤ l.length) (hr : cv l k n = r) :
    (execOp a.eval o).run Try.prog W = .ok (.value (agv r)) W := by
  subst hr
  unfold execOp
  simp only [ho, hx, Sem.run_bind, run_loadv hT hB hle, Result.andThen_ok, Sem.run_pure]
theorem ex_getv {o : Oper} {a : Act} {W : World} {t : TypeId} {x : Operand} (ho : o.op = .load t x) (ht : t = 3 ∨ t = 41) {p : Addr} (hx : a.eval x = .pointer (some p)) {v : Value} (hc : W.cell? p = some v) :
    (execOp a.eval o).run Try.prog W = .ok (.value v) W := by
  have hs : (Instr.loadAt t (.pointer (some p))).run Try.prog W = .ok v W := by
    rcases ht with rfl | rfl <;> simp [go_sem, hc]
  unfold execOp
  simp only [ho, hx, Sem.run_bind, hs, Result.andThen_ok, Sem.run_pure]
theorem ex_allocv {o : Oper} {a : Act} {W : World} {t : TypeId} {l : List Value} (hz : Zer t l) (ho : o.op = .alloc t) :
    (execOp a.eval o).run Try.prog W = .ok (.value (.pointer (some ⟨W.heap.size, 0, none⟩))) (W.alloc (bv t l)) := by
  unfold execOp
  simp only [ho]
  cases hq : Try.prog.info? t with
  | none => have := hz.eq; simp [hq] at this
  | some i =>
    have hz' : i.zero = some (agv l) := by simpa [hq] using hz.eq
    simp [go_sem, zeroValue, typeInfo, hq, hz', agv, bv]
theorem ex_fillv {o : Oper} {a : Act} {W : World} {t : TypeId} {x y : Operand} (ho : o.op = .store t x y) {B n : Nat} (hT : Row t n) {T : TypeId} {l r : List Value} (hx : a.eval x = .pointer (some ⟨B, 0, none⟩)) (hy : a.eval y = agv r) (hB : W.heap[B]? = some (bv T l)) (hr : Vs r n) (hl : l.length = n) :
    (execOp a.eval o).run Try.prog W = .ok .skip (W.setRow B r.toArray) ∧ (W.setRow B r.toArray).heap[B]? = some (bv T r) ∧ Chg B W (W.setRow B r.toArray) := by
  have hs := run_storev (k := 0) hT hB hr (by omega)
  rw [ptv_all (by rw [hr.len, hl])] at hs
  refine ⟨?_, setRow_heap W B _ _ T _ hB, setRow_chg _ hB⟩
  unfold execOp
  simp only [ho, hx, hy, Sem.run_bind, hs, Result.andThen_ok, Sem.run_pure]
theorem ex_putu {o : Oper} {a : Act} {W : World} {x y : Operand} (ho : o.op = .store 41 x y) {B j : Nat} {T : TypeId} {l : List Value} {n : Int} (hx : a.eval x = .pointer (some ⟨B, j, none⟩)) (hy : a.eval y = .int .u32 n) (hB : W.heap[B]? = some (bv T l)) (hle : j < l.length) :
    (execOp a.eval o).run Try.prog W = .ok .skip (W.setCell ⟨B, j, none⟩ (.int .u32 n)) := by
  have hc := bv_cell hB (List.getElem?_eq_getElem hle)
  have hf := bv_free hB j
  have hs : (Instr.storeAt 41 (.pointer (some ⟨B, j, none⟩)) (.int .u32 n)).run Try.prog W = .ok () (W.setCell ⟨B, j, none⟩ (.int .u32 n)) := by
    simp [go_sem, hc, hf]
  unfold execOp
  simp only [ho, hx, hy, Sem.run_bind, hs, Result.andThen_ok, Sem.run_pure]
theorem ex_sliceu {o : Oper} {a : Act} {W : World} {x y : Operand} (ho : o.op = .slice 43 x none (some y) none) {g M : Nat} (h : M ≤ 8) (hx : a.eval x = .pointer (some ⟨g, 0, none⟩)) (hy : a.eval y = .int .i64 (M : Int)) :
    (execOp a.eval o).run Try.prog W = .ok (.value (.slice (some ⟨g, 0, none⟩) M 8)) W := by
  unfold execOp
  simp [ho, hx, hy, Sem.run_bind, slc_used g M h, Result.andThen_ok, Sem.run_pure]
end
end Go.Proofs.Ytcenaleladjakab.budget
