/- topo: what Unplug answers. -/
import Derived.Test.YtemlafdmeaobfabTopJ
namespace Go.Proofs.Ytemlafdmeaobfab.topo
open Go Go.RowKit Go.Proofs.Ytemlafdmeaobfab.route
set_option linter.unusedVariables false
set_option linter.unusedSimpArgs false
set_option maxRecDepth 100000

/-- one node behind the others, and where they lie then -/
theorem run_nodes (w : World) (B : Nat) (v : Value) (acc : NL) (h : Ow w B v acc) (gb c : Nat) (q : Value × Nd) (hq : w.heap[gb]? = some (bv 25 (ncl q.1 q.2))) (h1 : q.1.oneCell' = true) (hl : acc.length ≤ 100000) (hB : B ≤ w.heap.size) (ty : TypeId) :
    ∃ v' w', (Builtin.append_ #[22, 22] ty #[v, .slice (some ⟨gb, 0, none⟩) 1 c]).run Try.prog w = .ok v' w' ∧ Ow w' B v' (acc ++ [q]) ∧ w.grownBy w' v.ownBlock ∧ Below B w w' ∧ (v'.ownBlock = v.ownBlock ∨ ∀ k, v'.ownBlock = some k → w.heap.size ≤ k) := by
  obtain ⟨i0, hi, hz0, hz1, hz2⟩ := info_parts' infoN
  have hnews : ∀ j u, (ncl q.1 q.2)[j]? = some u → w.cell? ((⟨gb, 0, none⟩ : Addr).add j) = some u := fun j u hj => bv_src hq 0 j u (by simpa using hj)
  have hone : ∀ u ∈ ncl q.1 q.2, u.oneCell' = true := (ncl_vs q.2 h1).one
  have go : ∀ B, B ≤ w.heap.size → Ow w B v acc → ∃ v' w', (Builtin.append_ #[22, 22] ty #[v, .slice (some ⟨gb, 0, none⟩) 1 c]).run Try.prog w = .ok v' w' ∧ w'.ownsRow B 25 4 v' (acc.length + 1) (ncs acc ++ ncl q.1 q.2) ∧ w.grownBy w' v.ownBlock := fun B hB h => by
    obtain ⟨v', w', q1, q2, q3, _⟩ := run_append_own (P := Try.prog) w B 22 ty 25 i0 _ 4 48 Try.underlying22 hi hz0 hz1 hz2 rfl (by omega) v acc.length (ncs acc) h ⟨gb, 0, none⟩ 1 c (ncl q.1 q.2) rfl hnews hone (by unfold maxLen; omega) (by omega) hB
    exact ⟨v', w', q1, q2, q3⟩
  obtain ⟨v', w', q1, q2, q3⟩ := go B hB h
  refine ⟨v', w', q1, ?_, q3, (Below.refl _ _).grown q3 hB (own_block h), ?_⟩
  · unfold Ow
    rw [List.length_append, ncs_append, show ncs [q] = ncl q.1 q.2 by simp [ncs]]
    exact q2
  · rcases h.2 with ⟨rfl, h0⟩ | ⟨g, cap, cur, rfl, hb, hg, hnc, hcm, hcs, htake⟩
    · right
      have hacc : acc = [] := List.eq_nil_of_length_eq_zero h0
      subst hacc
      obtain ⟨v2, w2, r1, r2, _⟩ := go w.heap.size (Nat.le_refl _) (Ow.nil _ _)
      rw [q1] at r1
      injection r1 with r1 r1'
      subst r1 r1'
      exact own_block r2
    · by_cases hroom : acc.length + 1 ≤ cap
      · left
        obtain ⟨w2, r1, _, _⟩ := run_append_fits (P := Try.prog) w B 22 ty 25 i0 4 Try.underlying22 hi hz1 g acc.length cap (ncs acc) h ⟨gb, 0, none⟩ 1 c (ncl q.1 q.2) rfl hnews hone hroom
        rw [q1] at r1
        injection r1 with r1 _
        rw [r1]
        rfl
      · right
        have hr := run_append_grow (P := Try.prog) w 22 ty 25 i0 _ Try.underlying22 hi hz0 ⟨g, 0, none⟩ acc.length cap (ncs acc) (by rw [hz1, ncs_length]) (World.ownsRow.cells (g := g) h rfl) ⟨gb, 0, none⟩ 1 c (ncl q.1 q.2) (by rw [hz1]; rfl) hnews (by omega) (by omega) (growslice_fits (by omega) (by rw [hz2]; omega))
        rw [q1] at hr
        injection hr with hr _
        rw [hr]
        intro k hk
        injection hk with hk
        simp at hk
        omega
theorem v_bsn {ops : Array Oper} {rest : List Oper} {o : Oper} {a : Act} {w : World} {Q : Exit → Act → World → Prop} (hgd : Region.wanted o (yielded ops a.tmps) = true) {x : Operand} (ho : o.op = .buildSlice 22 1 #[(0, x)]) {v : Value} {n : Nd} (hx : a.eval x = agv (ncl v n))
    (h : ∀ u B, New w u B 25 (ncl v n) → wpList Try.prog ops Q rest (a.put o.dst (.slice (some ⟨B, 0, none⟩) 1 1)) u) : wpList Try.prog ops Q (o :: rest) a w := by
  refine wpList_step fun K hK' => ?_
  rw [if_pos hgd]
  unfold Oper.wp
  rw [ex_bs ho hx]
  exact hK' _ _ (h _ _ (New.alloc w 25 _))
theorem run_append_op {P : Program} {o : Oper} {a : Act} {w w' : World} (s x : Operand) (t : TypeId) (ho : o.op = .call { callee := .builtin .append, args := #[s, x], argTypes := #[t, t] }) (v1 v2 v : Value) (hs : a.eval s = v1) (hx : a.eval x = v2)
    (hr : (Builtin.append_ #[t, t] o.type #[v1, v2]).run P w = .ok v w') : (execOp a.eval o).run P w = .ok (.value v) w' := by
  unfold execOp
  simp only [ho, resolve, invoke, builtin, Sem.run_bind, Sem.run_pure, Result.andThen_ok, List.map_toArray, List.map_cons, List.map_nil, hs, hx, hr]
/-- two rows of nodes that grow, apart from each other, both behind B -/
structure Two (B : Nat) (w : World) (v1 : Value) (M1 : NL) (v2 : Value) (M2 : NL) : Prop where
  o1 : Ow w B v1 M1
  o2 : Ow w B v2 M2
  ap : ∀ k, v1.ownBlock = some k → v2.ownBlock ≠ some k
theorem Two.nil (B : Nat) (w : World) : Two B w nilS [] nilS [] := ⟨Ow.nil _ _, Ow.nil _ _, fun k hk => by simp [nilS, Value.ownBlock] at hk⟩
theorem Two.flip {B : Nat} {w : World} {v1 v2 : Value} {M1 M2 : NL} (h : Two B w v1 M1 v2 M2) : Two B w v2 M2 v1 M1 := ⟨h.o2, h.o1, fun k hk e => h.ap k e hk⟩
theorem Two.below {B : Nat} {w u : World} {v1 v2 : Value} {M1 M2 : NL} (h : Two B w v1 M1 v2 M2) (hb : Below w.heap.size w u) : Two B u v1 M1 v2 M2 := ⟨h.o1.below hb, h.o2.below hb, h.ap⟩
theorem ow_kept {B : Nat} {w u : World} {v : Value} {M : NL} {b : Option Nat} (h : Ow w B v M) (hg : w.grownBy u b) (ha : ∀ k, v.ownBlock = some k → b ≠ some k) : Ow u B v M := by
  cases hv : v.ownBlock with
  | none => exact World.ownsRow.kept h hg (.inl hv)
  | some k => exact World.ownsRow.kept h hg (.inr (by rw [hv]; exact fun e => ha k hv e.symm))
theorem a_app1 {ops : Array Oper} {rest : List Oper} {o : Oper} {a : Act} {w : World} {Q : Exit → Act → World → Prop} (hgd : Region.wanted o (yielded ops a.tmps) = true) {s x : Operand} (ho : o.op = .call { callee := .builtin .append, args := #[s, x], argTypes := #[22, 22] })
    {B gb : Nat} {v1 v2 : Value} {M1 M2 : NL} {q : Value × Nd} (hs : a.eval s = v1) (hx : a.eval x = .slice (some ⟨gb, 0, none⟩) 1 1) (hI : Two B w v1 M1 v2 M2) (hc : w.heap[gb]? = some (bv 25 (ncl q.1 q.2))) (h1 : q.1.oneCell' = true) (hl : M1.length ≤ 1000) (hB : B ≤ w.heap.size)
    (h : ∀ u v', Two B u v' (M1 ++ [q]) v2 M2 → Below B w u → wpList Try.prog ops Q rest (a.put o.dst v') u) : wpList Try.prog ops Q (o :: rest) a w := by
  refine wpList_step fun K hK' => ?_
  rw [if_pos hgd]
  obtain ⟨v', w', hr, q1, q2, q3, q4⟩ := run_nodes w B v1 M1 hI.o1 gb 1 q hc h1 (by omega) hB o.type
  unfold Oper.wp
  rw [run_append_op s x _ ho _ _ v' hs hx hr]
  refine hK' _ _ (h w' v' ⟨q1, ow_kept hI.o2 q2 fun k hk e => hI.ap k e hk, fun k hk e => ?_⟩ q3)
  rcases q4 with r | r
  · rw [r] at hk; exact hI.ap k hk e
  · have h3 := r k hk
    have h4 := (World.ownsRow.lt hI.o2 k e).2
    omega
theorem lef_next {T : List Nd} {p : List Int} {k : Nat} {n : Nd} (h : T[k]? = some n) : lef (T.take (k + 1)) p = (if und n.1 p = true then lef (T.take k) p else lef (T.take k) p ++ [n]) ∧ gon (T.take (k + 1)) p = (if und n.1 p = true then gon (T.take k) p ++ [n] else gon (T.take k) p) := by
  obtain ⟨hk, e⟩ := List.getElem?_eq_some_iff.1 h
  rw [List.take_succ_eq_append_getElem hk, e]
  unfold lef gon
  rw [List.filter_append, List.filter_append]
  cases q : und n.1 p <;> simp [q]
def unL (T : List Nd) (p : List Int) : List Nd := if unC T p = 0 then lef T p else []
def unG (T : List Nd) (p : List Int) : List Nd := if unC T p = 0 then gon T p else []
theorem ob_rt {u : World} {B g : Nat} {M : NL} (h : Ob u B g M) (hm : M.length ≤ maxLen) : Rt u (.slice (some ⟨g, 0, none⟩) M.length M.length) M := (ob_ow h hm).rt h.on
/-- how far it has come: the first k are parted -/
structure Hf (B : Nat) (u wr : World) (M : NL) (T : List Nd) (p : List Int) (k : Nat) (v1 v2 : Value) (M1 M2 : NL) : Prop where
  two : Two B wr v1 M1 v2 M2
  lf : tr M1 = lef (T.take k) p
  gn : tr M2 = gon (T.take k) p
  m1 : ∀ q ∈ M1, q ∈ M
  m2 : ∀ q ∈ M2, q ∈ M
  below : Below u.heap.size u wr
theorem tr_snoc (M : NL) (q : Value × Nd) : tr (M ++ [q]) = tr M ++ [q.2] := by simp [tr]
set_option maxHeartbeats 4000000 in
theorem unplug_any (v pv : Value) (L : NL) (p : List Int) (w : World) (h : Rt w v L) (hp : Ris w pv p) (h48 : ok48 L) : Calls Try.prog 10 #[v, pv] w fun e u => ∃ v1 v2 M1 M2, e = .returned (.tuple #[v1, v2, .int .i64 (unC (tr L) p)]) ∧ Tt u w.heap.size v1 M1 ∧ Tt u w.heap.size v2 M2 ∧ tr M1 = unL (tr L) p ∧ tr M2 = unG (tr L) p ∧ Below w.heap.size w u := by
  have HC : Hid (Calls Try.prog 24 #[v] w fun e u' => e = .returned (.int .i64 (chkT (tr L))) ∧ Below w.heap.size w u') := check_any2 v L w h h48
  have HH : Hid (∀ u, Below w.heap.size w u → Calls Try.prog 25 #[v, pv] u fun e u' => e = .returned (.bool (fnB (tr L) p)) ∧ Below u.heap.size u u') := fun u hb => has_any v pv L p u (h.below hb) (hp.below hb) h48
  have HA : Hid (∀ u, chkT (tr L) = 0 → Below w.heap.size w u → Calls Try.prog 20 #[v] u fun e u' => ∃ g M, e = .returned (.slice (some ⟨g, 0, none⟩) L.length L.length) ∧ tr M = tr L ∧ Ob u' u.heap.size g M ∧ Below u.heap.size u u') := fun u hz hb => copyAll_any v L u (h.below hb) h48 (by have := (chkT_ok.1 hz).len; rw [tr_len] at this; omega)
  have HLn : Hid (chkT (tr L) = 0 → L.length ≤ 40) := fun hz => by have := (chkT_ok.1 hz).len; rw [tr_len] at this; exact this
  have HU : Hid (∀ u qv m, Ris u qv m → Below w.heap.size w u → Calls Try.prog 26 #[qv, pv] u fun e w' => e = .returned (.bool (und m p)) ∧ Below u.heap.size u w') := fun u qv m hr hb => under_any qv pv m p u hr (hp.below hb)
  have HF : Hid (∀ cc y, chkT (tr L) = cc → fnB (tr L) p = y → unC (tr L) p = (if cc ≠ 0 then cc else if y = false then 12 else 0) ∧ (cc = 0 → y = true → unL (tr L) p = lef (tr L) p ∧ unG (tr L) p = gon (tr L) p) ∧ (¬ (cc = 0 ∧ y = true) → unL (tr L) p = [] ∧ unG (tr L) p = [])) := fun cc y h1 h2 => by
    have hu : unC (tr L) p = (if cc ≠ 0 then cc else if y = false then 12 else 0) := by
      unfold unC
      rw [h1, show (fnd (tr L) p).isSome = fnB (tr L) p from rfl, h2]
    refine ⟨hu, fun a b => ?_, fun a => ?_⟩
    · subst a b
      unfold unL unG
      rw [hu, if_pos (by simp), if_pos (by simp)]
      exact ⟨rfl, rfl⟩
    · have : unC (tr L) p ≠ 0 := by
        rw [hu]
        split
        · rename_i q; exact q
        · rename_i q
          cases y with
          | false => simp
          | true => exact absurd ⟨Classical.not_not.1 q, rfl⟩ a
      unfold unL unG
      rw [if_neg this, if_neg this]
      exact ⟨rfl, rfl⟩
  obtain ⟨va, vc, rfl, hlc, hcm⟩ := h.form
  obtain ⟨cc, hcc⟩ : ∃ x, chkT (tr L) = x := ⟨_, rfl⟩
  obtain ⟨y, hy⟩ : ∃ x, fnB (tr L) p = x := ⟨_, rfl⟩
  obtain ⟨hu, hok, hno⟩ := HF.out cc y hcc hy
  obtain ⟨l, hl⟩ : ∃ x, L.length = x := ⟨_, rfl⟩
  simp only [hcc, hy, hl, hu] at HC HH HA HLn hlc ⊢
  obtain ⟨T, hT⟩ : ∃ T, tr L = T := ⟨_, rfl⟩
  have HTl : Hid (T.length = l) := by show _ = _; rw [← hT, tr_len]; exact hl
  simp only [hT] at HA hok hno ⊢
  have hM := Mm.nil w
  unfold maxLen at hcm
  clear h hp h48 hcc hy hl hu HF hT
  by_cases hz : cc ≠ 0
  · obtain ⟨n1, n2⟩ := hno (fun q => hz q.1)
    have e1 : (cc != 0) = true := by simpa using hz
    rw [if_pos hz, n1, n2]
    clear hok hno n1 n2 HH HA HU hz HLn
    go_enter Try.func10, Try.ntmps10
    repeat' (first | go_values | go_skip | go_guarded | go_step | go_upon | (simp only [Int.not_lt, Int.not_le] at *; go_simp))
    refine HC.out.mono ?_
    rintro e u1 ⟨rfl, hb⟩
    replace hM := hM.call hb
    clear hb
    repeat' (first | go_values | go_skip | go_guarded | go_step | go_upon | (simp only [Int.not_lt, Int.not_le] at *; go_simp))
    go_ret3
    exact ⟨_, _, [], [], rfl, Tt.nil _ _, Tt.nil _ _, rfl, rfl, hM.below⟩
  have hz : cc = 0 := Classical.not_not.1 hz
  subst hz
  have e1 : ((0 : Int) != 0) = false := rfl
  rw [if_neg (by simp)]
  cases y with
  | false =>
    obtain ⟨n1, n2⟩ := hno (fun q => by cases q.2)
    rw [if_pos rfl, n1, n2]
    clear hok hno n1 n2 HA HU HLn
    go_enter Try.func10, Try.ntmps10
    repeat' (first | go_values | go_skip | go_guarded | go_step | go_upon | (simp only [Int.not_lt, Int.not_le] at *; go_simp))
    refine HC.out.mono ?_
    rintro e u1 ⟨rfl, hb⟩
    replace hM := hM.call hb
    clear hb
    repeat' (first | go_values | go_skip | go_guarded | go_step | go_upon | (simp only [Int.not_lt, Int.not_le] at *; go_simp))
    refine (HH.out _ hM.below).mono ?_
    rintro e u2 ⟨rfl, hb⟩
    replace hM := hM.call hb
    clear hb
    repeat' (first | go_values | go_skip | go_guarded | go_step | go_upon | (simp only [Int.not_lt, Int.not_le] at *; go_simp))
    go_ret3
    exact ⟨_, _, [], [], rfl, Tt.nil _ _, Tt.nil _ _, rfl, rfl, hM.below⟩
  | true =>
  obtain ⟨n1, n2⟩ := hok rfl rfl
  rw [if_neg (by simp), n1, n2]
  have HA2 : Hid (∀ u, Below w.heap.size w u → Calls Try.prog 20 #[.slice va l vc] u fun e u' => ∃ g M, e = .returned (.slice (some ⟨g, 0, none⟩) l l) ∧ tr M = T ∧ Ob u' u.heap.size g M ∧ Below u.heap.size u u') := fun u hb => HA.out u (by first | rfl | trivial) hb
  have hl40 : l ≤ 40 := HLn.out (by first | rfl | trivial)
  clear hok hno n1 n2 HLn HA
  go_enter Try.func10, Try.ntmps10
  repeat' (first | go_values | go_skip | go_guarded | go_step | go_upon | (simp only [Int.not_lt, Int.not_le] at *; go_simp))
  refine HC.out.mono ?_
  rintro e u1 ⟨rfl, hb⟩
  replace hM := hM.call hb
  clear hb
  repeat' (first | go_values | go_skip | go_guarded | go_step | go_upon | (simp only [Int.not_lt, Int.not_le] at *; go_simp))
  refine (HH.out _ hM.below).mono ?_
  rintro e u2 ⟨rfl, hb⟩
  replace hM := hM.call hb
  clear hb
  repeat' (first | go_values | go_skip | go_guarded | go_step | go_upon | (simp only [Int.not_lt, Int.not_le] at *; go_simp))
  refine (HA2.out _ hM.below).mono ?_
  rintro e u3 ⟨g, M, rfl, hMt, hob, hb⟩
  have HBl : Hid (Below w.heap.size w u3) := bsq hM.below hb
  have hMl : M.length = l := by rw [← tr_len M, hMt]; exact HTl.out
  have hrt : Rt u3 (.slice (some ⟨g, 0, none⟩) l l) M := by have := ob_rt hob (by rw [hMl]; unfold maxLen; omega); rw [hMl] at this; exact this
  have HAT : Hid (∀ k q, M[k]? = some q → ∀ x, Below u3.heap.size u3 x → x.rangeAt g (k * 4) (ncl q.1 q.2) ∧ Ris x q.1 q.2.1) := fun k q hq x hx => by
    obtain ⟨g', off, e, hh⟩ := hrt.at k q hq
    injection e with e
    injection e with e1 e2 _
    subst e1 e2
    have := hh x hx
    rw [Nat.zero_add] at this
    exact this
  have HON : Hid (∀ q ∈ M, ∀ x, Below u3.heap.size u3 x → On x w.heap.size q.1 q.2) := fun q hq x hx => ((hob.on q hq).mono hM.below.size).below hx
  have HML : Hid (M.length = l ∧ tr M = T) := ⟨hMl, hMt⟩
  have HM0 : Hid (∃ M1 M2, Hf u3.heap.size u3 u3 M T p 0 nilS nilS M1 M2) := ⟨[], [], Two.nil _ _, rfl, rfl, fun q hq => by simp at hq, fun q hq => by simp at hq, Below.refl _ _⟩
  clear hb hob hrt hMt hMl hM HA2 HC HH
  repeat' (first | go_values | go_skip | go_guarded | go_step | go_upon | (simp only [Int.not_lt, Int.not_le] at *; go_simp))
  go_loopw [8, 9, 11, 24] (fun x1 x2 _ i wr => ∃ k : Nat, k ≤ l ∧ i = .int .i64 (k : Int) ∧ Hid (∃ M1 M2, Hf u3.heap.size u3 wr M T p k x1 x2 M1 M2)) (fun _ _ _ i _ => l - (intOf i).toNat)
  case atStart => exact ⟨0, Nat.zero_le _, rfl, HM0.out⟩
  case round =>
    clear HM0
    obtain ⟨k, hk, rfl, HA⟩ := hrel
    obtain ⟨M1, M2, hF⟩ := HA.out
    have HF : Hid (Hf u3.heap.size u3 wr M T p k u8 u9 M1 M2) := hF
    clear HA hF
    by_cases hlt : ¬ k < l
    · have HQ : Hid (Tt wr w.heap.size u8 M1 ∧ Tt wr w.heap.size u9 M2 ∧ tr M1 = lef T p ∧ tr M2 = gon T p ∧ Below w.heap.size w wr) := by
        have hF := HF.out
        have e : T.take k = T := List.take_of_length_le (by have := HTl.out; omega)
        have h1 := hF.lf
        have h2 := hF.gn
        rw [e] at h1 h2
        exact ⟨⟨hF.two.o1.mono HBl.out.size, fun q hq => HON.out q (hF.m1 q hq) wr hF.below⟩, ⟨hF.two.o2.mono HBl.out.size, fun q hq => HON.out q (hF.m2 q hq) wr hF.below⟩, h1, h2, bsq HBl.out hF.below⟩
      clear HF HAT HON HML HU
      go_wp2
      go_ret3
      exact ⟨_, _, M1, M2, rfl, HQ.out⟩
    have hlt : k < l := by omega
    obtain ⟨⟨qv, m⟩, hq⟩ : ∃ q, M[k]? = some q := ⟨_, List.getElem?_eq_getElem (by have := HML.out; omega)⟩
    have hat := HAT.out k _ hq
    have hqT : T[k]? = some m := by rw [← HML.out.2]; exact tr_at hq
    have hqM := List.mem_of_getElem? hq
    have HB3 : Hid (Below u3.heap.size u3 wr) := HF.out.below
    have HRG : Hid (∀ x, Below wr.heap.size wr x → x.rangeAt g (k * 4) (ncl qv m)) := fun x hx => (hat x (bsq HB3.out hx)).1
    have HUN : Hid (∀ x, Below wr.heap.size wr x → Calls Try.prog 26 #[qv, pv] x fun e w' => e = .returned (.bool (und m.1 p)) ∧ Below x.heap.size x w') := fun x hx => HU.out x qv m.1 (hat x (bsq HB3.out hx)).2 (bsq HBl.out (bsq HB3.out hx))
    have HVQ : Hid (Vs (ncl qv m) 4) := ncl_vs m (ris_one (hat wr HB3.out).2)
    have HO1 : Hid (qv.oneCell' = true) := ris_one (hat wr HB3.out).2
    have HTw : Hid (Two u3.heap.size wr u8 M1 u9 M2) := HF.out.two
    have HL1 : Hid (M1.length ≤ 1000 ∧ M2.length ≤ 1000) := by
      have h1 := congrArg List.length HF.out.lf
      have h2 := congrArg List.length HF.out.gn
      have h3 := two_len (T.take k) p
      rw [tr_len] at h1 h2
      rw [List.length_take] at h3
      constructor <;> omega
    have HT1 : Hid (und m.1 p = true → ∀ x v', Two u3.heap.size x v' (M2 ++ [(qv, m)]) u8 M1 → Below u3.heap.size u3 x → ∃ M1 M2, Hf u3.heap.size u3 x M T p (k + 1) u8 v' M1 M2) := fun hu x v' ht hb => by
      obtain ⟨e1, e2⟩ := lef_next (p := p) hqT
      rw [if_pos hu] at e1 e2
      refine ⟨M1, M2 ++ [(qv, m)], ht.flip, by rw [e1]; exact HF.out.lf, by rw [tr_snoc, e2, HF.out.gn], HF.out.m1, fun q hq => ?_, hb⟩
      rcases List.mem_append.1 hq with r | r
      · exact HF.out.m2 q r
      · rw [List.mem_singleton.1 r]; exact hqM
    have HT2 : Hid (und m.1 p = false → ∀ x v', Two u3.heap.size x v' (M1 ++ [(qv, m)]) u9 M2 → Below u3.heap.size u3 x → ∃ M1 M2, Hf u3.heap.size u3 x M T p (k + 1) v' u9 M1 M2) := fun hu x v' ht hb => by
      obtain ⟨e1, e2⟩ := lef_next (p := p) hqT
      rw [if_neg (by rw [hu]; simp)] at e1 e2
      refine ⟨M1 ++ [(qv, m)], M2, ht, by rw [tr_snoc, e1, HF.out.lf], by rw [e2]; exact HF.out.gn, fun q hq => ?_, HF.out.m2, hb⟩
      rcases List.mem_append.1 hq with r | r
      · exact HF.out.m1 q r
      · rw [List.mem_singleton.1 r]; exact hqM
    obtain ⟨b, hb⟩ : ∃ b, und m.1 p = b := ⟨_, rfl⟩
    simp only [hb] at HUN HT1 HT2
    have G0 : Hid ((ncl qv m)[0]? = some qv) := rfl
    have hM := Mm.nil wr
    clear HF HAT HON HML HU hat hq hqT hqM hb HTl
    repeat' (first | (go_big_may; first | (refine v_ldR rfl rfl row_node rfl (HRG.out _ hM.below) rfl ?_) | (refine v_alloc rfl zer_node rfl ?_; intro u xn hN; replace hM := hM.new hN; clear hN) | (refine v_fill rfl rfl row_node rfl rfl hM.at0 HVQ.out rfl ?_; intro u hv hc; replace hM := hM.put0 hc hv; clear hv hc) | (refine v_get rfl rfl (.inr rfl) rfl hM.at0 G0.out ?_)) | go_values | go_skip | go_guarded | go_step | go_upon | (simp only [Int.not_lt, Int.not_le] at *; go_simp))
    refine (HUN.out _ hM.below).mono ?_
    rintro e u5 ⟨rfl, hb⟩
    replace hM := hM.call hb
    clear hb HUN HRG
    cases b with
    | true =>
      have HX : Hid (∀ x v', Two u3.heap.size x v' (M2 ++ [(qv, m)]) u8 M1 → Below u3.heap.size u3 x → ∃ M1 M2, Hf u3.heap.size u3 x M T p (k + 1) u8 v' M1 M2) := HT1.out (by first | rfl | trivial)
      clear HT1 HT2
      repeat' (first | (go_big_may; first | (refine v_load rfl rfl row_node rfl hM.at0 (Nat.le_refl 4) rfl ?_) | (refine v_bsn rfl rfl rfl ?_; intro u xb hN; replace hM := hM.new hN; clear hN) | (at_builtin; refine a_app1 rfl rfl rfl rfl (HTw.out.flip.below hM.below) (q := (qv, m)) hM.at0 HO1.out HL1.out.2 (Nat.le_trans HB3.out.size hM.below.size) ?_; intro u vn hT hb; have HQ : Hid (∃ M1 M2, Hf u3.heap.size u3 u M T p (k + 1) u8 vn M1 M2) := HX.out u vn hT ((bsq HB3.out hM.below).trans hb); clear hT hb hM HX HTw HB3)) | go_values | go_skip | go_guarded | go_step | go_upon | (simp only [Int.not_lt, Int.not_le] at *; go_simp))
      go_roundw
      case rel => exact ⟨k + 1, by omega, by go_num, HQ.out⟩
      case measure => simp [intOf]; omega
    | false =>
      have HX : Hid (∀ x v', Two u3.heap.size x v' (M1 ++ [(qv, m)]) u9 M2 → Below u3.heap.size u3 x → ∃ M1 M2, Hf u3.heap.size u3 x M T p (k + 1) v' u9 M1 M2) := HT2.out (by first | rfl | trivial)
      clear HT1 HT2
      repeat' (first | (go_big_may; first | (refine v_load rfl rfl row_node rfl hM.at0 (Nat.le_refl 4) rfl ?_) | (refine v_bsn rfl rfl rfl ?_; intro u xb hN; replace hM := hM.new hN; clear hN) | (at_builtin; refine a_app1 rfl rfl rfl rfl (HTw.out.below hM.below) (q := (qv, m)) hM.at0 HO1.out HL1.out.1 (Nat.le_trans HB3.out.size hM.below.size) ?_; intro u vn hT hb; have HQ : Hid (∃ M1 M2, Hf u3.heap.size u3 u M T p (k + 1) vn u9 M1 M2) := HX.out u vn hT ((bsq HB3.out hM.below).trans hb); clear hT hb hM HX HTw HB3)) | go_values | go_skip | go_guarded | go_step | go_upon | (simp only [Int.not_lt, Int.not_le] at *; go_simp))
      go_roundw
      case rel => exact ⟨k + 1, by omega, by go_num, HQ.out⟩
      case measure => simp [intOf]; omega
end Go.Proofs.Ytemlafdmeaobfab.topo
