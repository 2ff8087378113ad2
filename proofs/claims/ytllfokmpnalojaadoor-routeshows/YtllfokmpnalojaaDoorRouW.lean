/- route: what plugref's portText, PathText and TextPath answer. -/
import Derived.Test.YtllfokmpnalojaaDoorRouU
import Derived.Test.YtllfokmpnalojaaDoorRouG
namespace Go.Proofs.YtllfokmpnalojaaDoor.route
open Go Go.RowKit
set_option linter.unusedVariables false
set_option linter.unusedSimpArgs false
set_option maxRecDepth 100000

/-- the value v owns these texts, in a block from B on -/
def Txs (w : World) (B : Nat) (v : Value) (l : List ByteArray) : Prop := w.ownsRow B 9 1 v l.length (scells l)
theorem Txs.nil (w : World) (B : Nat) : Txs w B (.slice none 0 0) [] := ⟨rfl, .inl ⟨rfl, rfl⟩⟩
theorem Txs.below {w u : World} {B : Nat} {v : Value} {l : List ByteArray} (h : Txs w B v l) (hb : Below w.heap.size w u) : Txs u B v l := by
  cases hv : v.ownBlock with
  | none => exact World.ownsRow.kept h (grown_below hb) (.inl hv)
  | some k => exact World.ownsRow.kept h (grown_below hb) (.inr (by rw [hv]; simp))
theorem Txs.rts {w : World} {B : Nat} {v : Value} {l : List ByteArray} (h : Txs w B v l) : Rts w v l := by
  have h' := h
  rcases h.2 with ⟨rfl, h0⟩ | ⟨g, cap, cur, rfl, hB, hg, hnc, hcm, hs, ht⟩
  · exact ⟨none, 0, by rw [h0], by omega, Nat.zero_le _, fun q => by omega⟩
  · refine ⟨_, cap, rfl, hnc, hcm, fun _ => ⟨g, 0, rfl, (Array.getElem?_eq_some_iff.1 hg).1, fun j x hx => ?_⟩⟩
    have hj := (List.getElem?_eq_some_iff.1 hx).1
    rw [Nat.zero_add, World.ownsRow.cellAt h' j (by omega)]
    exact scells_at hx
/-- texts behind texts -/
theorem wpList_txt {ops : Array Oper} {rest : List Oper} {o : Oper} {a : Act} {Q : Exit → Act → World → Prop} (w : World) (hgd : o.guard = none) (s x : Operand)
    (ho : o.op = .call { callee := .builtin .append, args := #[s, x], argTypes := #[40, 40] }) (B : Nat) (v : Value) (acc : List ByteArray) (hs : a.eval s = v) (h : Txs w B v acc)
    (vx : Value) (es : List ByteArray) (hx : a.eval x = vx) (hr : Rts w vx es) (hl : acc.length + es.length ≤ 8796093021952) (hB : B ≤ w.heap.size)
    (hK : ∀ v' w', Txs w' B v' (acc ++ es) → Below B w w' → wpList Tryd.prog ops Q rest (a.put o.dst v') w') : wpList Tryd.prog ops Q (o :: rest) a w := by
  refine wpList_plain hgd fun K hK' => ?_
  obtain ⟨i0, hi, hz0, hz1, hz2⟩ := info_parts' infoS
  obtain ⟨ax, cx, rfl, h1, h2, h4⟩ := hr
  cases ax with
  | none =>
    have h0 : es.length = 0 := by
      rcases Nat.eq_zero_or_pos es.length with q | q
      · exact q
      · obtain ⟨g, off, q1, _⟩ := h4 q; cases q1
    have hes : es = [] := List.eq_nil_of_length_eq_zero h0
    subst hes
    have hrun := run_append_nothing (P := Tryd.prog) (w := w) B 40 o.type 9 i0 1 Tryd.underlying40 hi v acc.length (scells acc) h cx
    simp only [List.length_nil] at hx
    have hk := hK' _ _ (hK v w (by rw [List.append_nil]; exact h) (Below.refl _ _))
    unfold Oper.wp
    simp [execOp, ho, resolve, invoke, builtin, hs, hx, hrun, Result.andThen]
    exact hk
  | some ad =>
    refine wp_append_own w s x 40 ho B 9 i0 _ 1 16 Tryd.underlying40 hi hz0 hz1 hz2 rfl (by omega) v acc.length (scells acc) hs h ad es.length cx (scells es) hx (by rw [scells_length]; omega) ?_ (scells_one es) (by unfold maxLen; omega) (by omega) hB ?_
    · intro j u hj
      have hlt := (List.getElem?_eq_some_iff.1 hj).1
      rw [scells_length] at hlt
      obtain ⟨g, off, q1, hg, hc⟩ := h4 (by omega)
      injection q1 with q1
      subst q1
      rw [Addr.add_lit]
      have hu : u = .string es[j] := by
        rw [scells_at (List.getElem?_eq_getElem hlt)] at hj
        injection hj with hj
        exact hj.symm
      rw [hu]
      exact hc j _ (List.getElem?_eq_getElem hlt)
    · intro v' w' h1 h2 _
      refine hK' _ _ (hK v' w' ?_ ((Below.refl _ _).grown h2 hB (own_block h)))
      unfold Txs
      rw [List.length_append, show scells (acc ++ es) = scells acc ++ scells es by simp [scells]]
      exact h1
theorem one_rts (w : World) (x : ByteArray) : Rts (w.alloc (.cells #[.string x] 9)) (.slice (some ⟨w.heap.size, 0, none⟩) 1 1) [x] := by
  refine ⟨_, _, rfl, Nat.le_refl _, by unfold maxLen; simp, fun _ => ⟨w.heap.size, 0, rfl, by simp, fun j y hy => ?_⟩⟩
  have hj : j = 0 := by have := (List.getElem?_eq_some_iff.1 hy).1; simp at this; exact this
  subst hj
  simp at hy
  subst hy
  simp
theorem dgt_low {i : Nat} (h : i < 10) (h1 : 1 ≤ i) : (⟨#[48, 49, 50, 51, 52, 53, 54, 55, 56, 57]⟩ : ByteArray).extract i (i + 1) = dgt (i : Int) := by
  have key : ∀ i : Fin 10, ((⟨#[48, 49, 50, 51, 52, 53, 54, 55, 56, 57]⟩ : ByteArray).extract i.val (i.val + 1)).data.toList = (dgt (i.val : Int)).data.toList := by decide +kernel
  exact ba_ext (key ⟨i, h⟩)
theorem dgt_high {i : Nat} (h : i < 6) : (⟨#[49]⟩ : ByteArray) ++ (⟨#[48, 49, 50, 51, 52, 53, 54, 55, 56, 57]⟩ : ByteArray).extract i (i + 1) = dgt ((i + 10 : Nat) : Int) := by
  have key : ∀ i : Fin 6, ((⟨#[49]⟩ : ByteArray) ++ (⟨#[48, 49, 50, 51, 52, 53, 54, 55, 56, 57]⟩ : ByteArray).extract i.val (i.val + 1)).data.toList = (dgt ((i.val + 10 : Nat) : Int)).data.toList := by decide +kernel
  exact ba_ext (key ⟨i, h⟩)
set_option maxHeartbeats 2000000 in
theorem port_any (p : Int) (w : World) (h1 : 1 ≤ p) (h2 : p ≤ 15) : Calls Tryd.prog 23 #[.int .i64 p] w fun e w' => e = .returned (.string (dgt p)) ∧ w = w' := by
  by_cases h9 : 9 < p
  · obtain ⟨i, hi⟩ : ∃ i : Nat, p - 10 = (i : Int) := ⟨(p - 10).toNat, by omega⟩
    obtain ⟨J, hJ⟩ : ∃ J : Nat, p - 9 = (J : Int) := ⟨(p - 9).toNat, by omega⟩
    have hJi : J = i + 1 := by omega
    have e := dgt_high (i := i) (by omega)
    rw [show ((i + 10 : Nat) : Int) = p by omega, ← hJi] at e
    have hsz : (⟨#[48, 49, 50, 51, 52, 53, 54, 55, 56, 57]⟩ : ByteArray).size = 10 := rfl
    have hiJ : i ≤ J := by omega
    have hJ10 : J ≤ 10 := by omega
    have hsl : ∀ W : World, (Instr.slice 9 (.string ⟨#[48, 49, 50, 51, 52, 53, 54, 55, 56, 57]⟩) (some (.int .i64 (i : Int))) (some (.int .i64 (J : Int))) none).run Tryd.prog W = .ok (.string ((⟨#[48, 49, 50, 51, 52, 53, 54, 55, 56, 57]⟩ : ByteArray).extract i J)) W := fun W => by
      have := run_slice_string (P := Tryd.prog) W 9 ⟨#[48, 49, 50, 51, 52, 53, 54, 55, 56, 57]⟩ .i64 .i64 (i : Int) (J : Int) Tryd.underlying9 (by omega) (by omega) (by rw [hsz]; omega)
      simpa using this
    obtain ⟨X, hX⟩ : ∃ X, (⟨#[48, 49, 50, 51, 52, 53, 54, 55, 56, 57]⟩ : ByteArray).extract i J = X := ⟨_, rfl⟩
    rw [hX] at e
    simp only [hX] at hsl
    have hXs : X.size = 1 := by rw [← hX, ByteArray.size_extract, hsz]; omega
    rw [← e]
    have hps : ((⟨#[49]⟩ : ByteArray) ++ X).size = 2 := by rw [ByteArray.size_append, hXs]; rfl
    clear e hX hJi
    go_enter Tryd.func23, Tryd.ntmps23
    go_wp2
    go_ret
    exact ⟨rfl, rfl⟩
  · obtain ⟨i, rfl⟩ : ∃ i : Nat, p = (i : Int) := ⟨p.toNat, by omega⟩
    obtain ⟨J, hJ⟩ : ∃ J : Nat, i + 1 = J := ⟨_, rfl⟩
    have hJ2 : (i : Int) + 1 = (J : Int) := by omega
    have e := dgt_low (i := i) (by omega) (by omega)
    rw [hJ] at e
    have hsz : (⟨#[48, 49, 50, 51, 52, 53, 54, 55, 56, 57]⟩ : ByteArray).size = 10 := rfl
    have hiJ : i ≤ J := by omega
    have hJ10 : J ≤ 10 := by omega
    have hsl : ∀ W : World, (Instr.slice 9 (.string ⟨#[48, 49, 50, 51, 52, 53, 54, 55, 56, 57]⟩) (some (.int .i64 (i : Int))) (some (.int .i64 (J : Int))) none).run Tryd.prog W = .ok (.string ((⟨#[48, 49, 50, 51, 52, 53, 54, 55, 56, 57]⟩ : ByteArray).extract i J)) W := fun W => by
      have := run_slice_string (P := Tryd.prog) W 9 ⟨#[48, 49, 50, 51, 52, 53, 54, 55, 56, 57]⟩ .i64 .i64 (i : Int) (J : Int) Tryd.underlying9 (by omega) (by omega) (by rw [hsz]; omega)
      simpa using this
    simp only [e] at hsl
    generalize dgt (i : Int) = X at hsl
    clear e hJ
    go_enter Tryd.func23, Tryd.ntmps23
    go_wp2
    go_ret
    exact ⟨rfl, rfl⟩
set_option maxHeartbeats 4000000 in
theorem pathText_any (v : Value) (P : List Int) (w : World) (hv : Ris w v P) : Calls Tryd.prog 8 #[v] w fun e w' => e = .returned (.tuple #[.string (shT P), .int .i64 (chk P)]) ∧ Below w.heap.size w w' := by
  have HC : Hid (Calls Tryd.prog 22 #[v] w fun e w' => e = .returned (.int .i64 (chk P)) ∧ w = w') := path_any v P w hv
  unfold shT
  by_cases hc : chk P = 0
  · rw [if_pos hc, hc]
    rw [hc] at HC
    obtain ⟨hl1, hl6, hP⟩ := chk_ok hc
    obtain ⟨a, c, rfl, hlc, hcm⟩ := hv.form
    have HR : Hid (Ris w (.slice a P.length c) P) := hv
    have HP : Hid (∀ p ∈ P, 1 ≤ p ∧ p ≤ 15) := hP
    obtain ⟨N, hN⟩ : ∃ N, P.length = N := ⟨_, rfl⟩
    have HN : Hid (P.length = N) := hN
    have HM : Hid ((P.map dgt).length = N) := by show (P.map dgt).length = N; rw [List.length_map]; exact hN
    rw [hN] at HC HR hlc hl1 hl6 ⊢
    unfold maxLen at hcm
    obtain ⟨T, hT⟩ : ∃ T, txt P = T := ⟨_, rfl⟩
    have HT : Hid (txt P = T) := hT
    rw [hT]
    clear hv hN hP hc hT
    go_enter Tryd.func8, Tryd.ntmps8
    go_wp2_with fail
    refine (HC.out).mono ?_
    rintro e u ⟨rfl, rfl⟩
    clear HC
    go_wp2
    go_loopw [5, 7, 15] (fun v _ i wr => ∃ k : Nat, k ≤ N ∧ i = .int .i64 (k : Int) ∧ Hid (Txs wr w.heap.size v ((P.map dgt).take k) ∧ Below w.heap.size w wr)) (fun _ _ i _ => N - (intOf i).toNat)
    case atStart => exact ⟨0, Nat.zero_le _, rfl, Txs.nil _ _, Below.refl _ _⟩
    case round =>
      obtain ⟨k, hk, rfl, HS⟩ := hrel
      by_cases hlt : ¬ k < N
      · obtain rfl : k = N := by omega
        have hs : Rts wr u5 (P.map dgt) := by
          have := HS.out.1.rts
          rw [List.take_of_length_le (by rw [HM.out]; exact Nat.le_refl _)] at this
          exact this
        obtain ⟨a5, c5, rfl, h51, h52, h54⟩ := hs
        obtain ⟨g5, o5, rfl, hg5, hc5⟩ := h54 (by rw [HM.out]; omega)
        have hj : Calls Tryd.prog 21 #[.slice (some ⟨g5, o5, none⟩) (P.map dgt).length c5, .string ⟨#[46]⟩] wr fun e w' => e = .returned (.string ⟨(Lib.join ((P.map dgt).map (·.data.toList)) [46]).toArray⟩) ∧ Below wr.heap.size wr w' := by
          refine Tryd.strings_Join g5 o5 c5 (P.map dgt) ⟨#[46]⟩ wr hc5 hg5 (by rw [HM.out]; omega) h51 ?_
          have e : (P.map dgt).map (·.data.toList) = P.map fun p => Lib.decDigits p.toNat := by simp [dgt]
          rw [e]
          have := txtL_len P HP.out
          unfold txtL at this
          rw [HN.out] at this
          exact Nat.le_trans this (by omega)
        have e : (⟨(Lib.join ((P.map dgt).map (·.data.toList)) [46]).toArray⟩ : ByteArray) = txt P := by
          have e : (P.map dgt).map (·.data.toList) = P.map fun p => Lib.decDigits p.toNat := by simp [dgt]
          rw [e]
          rfl
        rw [e, HM.out] at hj
        rw [HM.out] at h51 ⊢
        have HJ : Hid (Calls Tryd.prog 21 #[.slice (some ⟨g5, o5, none⟩) k c5, .string ⟨#[46]⟩] wr fun e w' => e = .returned (.string (txt P)) ∧ Below wr.heap.size wr w') := hj
        have HB : Hid (Below w.heap.size w wr) := HS.out.2
        rw [HT.out] at HJ
        clear HS hj e HR HP HN HM hc5 h54 hg5
        go_wp2_with fail
        refine (HJ.out).mono ?_
        rintro e u ⟨rfl, hb⟩
        have H2 : Hid (Below w.heap.size w u) := bsq HB.out hb
        clear hb HJ
        go_wp2
        go_ret2
        exact ⟨rfl, H2.out⟩
      · have hlt : k < N := by omega
        have hkl : k < P.length := by rw [HN.out]; exact hlt
        obtain ⟨g, off, rfl, c0⟩ := (HR.out.below HS.out.2).at k P[k] (List.getElem?_eq_getElem hkl)
        have hpb := HP.out P[k] (List.getElem_mem hkl)
        have HI : Hid (Calls Tryd.prog 23 #[.int .i64 P[k]] wr fun e w' => e = .returned (.string (dgt P[k])) ∧ wr = w') := port_any P[k] wr hpb.1 hpb.2
        have HE : Hid ((P.map dgt).take k ++ [dgt P[k]] = (P.map dgt).take (k + 1)) := by
          show (P.map dgt).take k ++ [dgt P[k]] = (P.map dgt).take (k + 1)
          rw [List.take_succ_eq_append_getElem (by rw [HM.out]; exact hlt)]
          simp
        have HX : Hid (((P.map dgt).take k).length ≤ 6) := by show ((P.map dgt).take k).length ≤ 6; rw [List.length_take]; omega
        generalize dgt P[k] = X at HI HE
        generalize P[k] = x at HI c0 hpb
        clear hkl HP HN HM
        go_wp2_with fail
        refine (HI.out).mono ?_
        rintro e u ⟨rfl, rfl⟩
        clear HI
        go_wp2_with
          (at_builtin
           refine wpList_txt _ rfl _ _ rfl w.heap.size _ ((P.map dgt).take k) rfl (HS.out.1.below (balloc _ _)) _ [X] rfl (one_rts _ _) (by have := HX.out; simp only [List.length_cons, List.length_nil]; omega) (Nat.le_trans HS.out.2.size (by simp)) ?_
           intro v' w' q1 q3
           have t1 : Hid (Txs w' w.heap.size v' ((P.map dgt).take k ++ [X])) := q1
           have t2 : Hid (Below w.heap.size w w') := (bsq HS.out.2 (balloc _ _)).trans q3
           clear q1 q3)
        go_wp2
        go_roundw
        case rel => exact ⟨k + 1, by omega, by go_num, by have := t1.out; rw [HE.out] at this; exact this, t2.out⟩
        case measure => simp [intOf]; omega
  · rw [if_neg hc]
    obtain ⟨z, hz⟩ : ∃ z, chk P = z := ⟨_, rfl⟩
    rw [hz] at HC hc ⊢
    have hne : (z != 0) = true := by simpa using hc
    clear hv hz hc
    go_enter Tryd.func8, Tryd.ntmps8
    go_wp2_with fail
    refine (HC.out).mono ?_
    rintro e u ⟨rfl, rfl⟩
    clear HC
    go_wp2
    go_ret2
    exact ⟨rfl, Below.refl _ _⟩
end Go.Proofs.YtllfokmpnalojaaDoor.route
