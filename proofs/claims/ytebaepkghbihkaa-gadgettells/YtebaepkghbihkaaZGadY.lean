/- gadget: what is described is read as the sheet. -/
import Derived.Test.YtebaepkghbihkaaZGadX
import Derived.Test.YtebaepkghbihkaaZDescNamesW
import Derived.Test.YtebaepkghbihkaaZDescBackV
import Derived.Test.YtebaepkghbihkaaZDescCo
namespace Go.Proofs.Ytebaepkghbihkaa.gadget
open Go.RowKit Go.PlainAid Go.Proofs.Ytebaepkghbihkaa.lane Go.Proofs.Ytebaepkghbihkaa.desc
open Go.Proofs.Ytebaepkghbihkaa.setup (inS inS_iff askc good rK rN rC wrT wrC)
open Go.Proofs.Ytebaepkghbihkaa.utf (werr clean)
set_option linter.unusedVariables false
set_option linter.unusedSimpArgs false

theorem und_d : Try.prog.underlying 23 = some (.struct (Try.prog.fieldsOf 23)) := by kernel_rfl
theorem stood_d : Try.prog.stoodInHeld 23 = false := by kernel_rfl
theorem neq_dv (d : Dv) (w : World) : (binOp .neq 23 (dvV d) (dvV d)).run Try.prog w = .ok (.bool false) w := by
  have h : (Op.equalIn 10000 23 (dvV d) (dvV d)).run Try.prog w = .ok true w := by
    rw [run_equalIn_struct w 9999 23 _ _ und_d stood_d]
    simp [go_sem]
  rw [run_neq_struct, h]; rfl
theorem cut_all (t : ByteArray) (h : t.size ≤ 65535) : cutT t 65535 = t := by
  unfold cutT
  rw [show min t.size (65535 : Int).toNat = t.size by omega, ByteArray.extract_zero_size]
theorem wd_yes {d : Dv} (h : wdC d = 0) : devOk d = true ∧ wdT d = strOfNums (devL d) ∧ (wdT d).size = 18 := by
  unfold wdC at h
  by_cases q : devOk d = true
  · have e : wdT d = strOfNums (devL d) := by unfold wdT; rw [if_pos q]
    exact ⟨q, e, by rw [e, str_size, devL_length]⟩
  · rw [if_neg q] at h; cases h
theorem wc_yes {c : Cf} (h : chkC c = 0) : wcT c = strOfNums (confL c) ∧ (wcT c).size ≤ 413 := by
  have e : wcT c = strOfNums (confL c) := by unfold wcT; rw [if_pos h]
  exact ⟨e, by rw [e, str_size]; exact confL_le (chkC_ok h)⟩
theorem g256 : good 5 256 0 65535 = true := good_desc (by omega) (by omega) (by omega) (by omega) (by omega) (by omega)
theorem g512 : good 5 512 0 65535 = true := good_desc (by omega) (by omega) (by omega) (by omega) (by omega) (by omega)
/-- an error of the first ask -/
theorem tells_bad {d : Dv} {c : Cf} {T : List (List Int)} {s a h : Int} {A : Ans} (hA : ctl d c T s a h (wrT 5 256 0 65535) = A) (he : ¬ A.e = 0) : (¬ chkS d c T = 0 ∧ A.e = chkS d c T) ∨ (chkS d c T = 0 ∧ gR s a h = false ∧ A.e = 1) := by
  rw [ctl_asked g256] at hA
  by_cases q1 : chkS d c T ≠ 0
  · rw [if_pos q1] at hA; subst hA; exact .inl ⟨q1, rfl⟩
  rw [if_neg q1] at hA
  by_cases q2 : gR s a h = false
  · rw [if_pos q2] at hA; subst hA; exact .inr ⟨by omega, q2, rfl⟩
  rw [if_neg q2, act_5, des_256] at hA
  subst hA
  exact absurd rfl he
theorem tells_ok {d : Dv} {c : Cf} {T : List (List Int)} {s a h : Int} {A : Ans} (hA : ctl d c T s a h (wrT 5 256 0 65535) = A) (he : A.e = 0) : chkS d c T = 0 ∧ gR s a h = true ∧ A = ⟨s, a, h, wdT d, 0⟩ := by
  rw [ctl_asked g256] at hA
  by_cases q1 : chkS d c T ≠ 0
  · rw [if_pos q1] at hA; subst hA; exact absurd he q1
  rw [if_neg q1] at hA
  by_cases q2 : gR s a h = false
  · rw [if_pos q2] at hA; subst hA; simp [bad] at he
  rw [if_neg q2, act_5, des_256] at hA
  have h1 : chkS d c T = 0 := by omega
  refine ⟨h1, by simpa using q2, ?_⟩
  rw [← hA]
  show (⟨s, a, h, cutT (wdT d) 65535, 0⟩ : Ans) = _
  rw [cut_all _ (by rw [(wd_yes (chkS_ok h1).1).2.2]; omega)]
theorem tells_conf {d : Dv} {c : Cf} {T : List (List Int)} {s a h : Int} (h1 : chkS d c T = 0) (h2 : gR s a h = true) : ctl d c T s a h (wrT 5 512 0 65535) = ⟨s, a, h, wcT c, 0⟩ := by
  rw [ctl_asked g512, if_neg (by omega), if_neg (by rw [h2]; decide), act_5, des_512]
  show (⟨s, a, h, cutT (wcT c) 65535, 0⟩ : Ans) = _
  rw [cut_all _ (by have := (wc_yes (chkS_ok h1).2.2.1).2; omega)]
theorem tells_text {d : Dv} {c : Cf} {T : List (List Int)} {s a h : Int} (h1 : chkS d c T = 0) (h2 : gR s a h = true) (k : Nat) (t : List Int) (ht : T[k]? = some t) :
    ctl d c T s a h (wrT 5 (769 + (k : Int)) 0 65535) = ⟨s, a, h, dtxt (strOfNums t), 0⟩ ∧ werr (strOfNums t) = 0 := by
  have hk := (List.getElem?_eq_some_iff.1 ht).1
  have h8 := (chkS_ok h1).2.2.2.1
  have hw := txE_all (chkS_ok h1).2.2.2.2 t (List.mem_of_getElem? ht)
  refine ⟨?_, hw⟩
  rw [ctl_asked (good_desc (by omega) (by omega) (by omega) (by omega) (by omega) (by omega)), if_neg (by omega), if_neg (by rw [h2]; decide), act_5, des_text d c T k t ht]
  show (⟨s, a, h, cutT (dtxt (strOfNums t)) 65535, 0⟩ : Ans) = _
  rw [cut_all _ (by have := (descNames.back hw).2.2.2; omega)]
end Go.Proofs.Ytebaepkghbihkaa.gadget
