/- route: the plain mathematics of a path's text: what begins with what, how it is split, which text is whose. No program is named here but by its shelf. -/
import Derived.Test.YtllfokmpnalojaaDoorRouS
import Derived.Lib.Split
import Derived.Lib.AtoiAll
namespace Go.Proofs.YtllfokmpnalojaaDoor.route
open Go Go.RowKit
set_option linter.unusedVariables false
set_option linter.unusedSimpArgs false
set_option maxRecDepth 100000

def cd (p : Int) : List UInt8 := Lib.decDigits p.toNat
theorem cd_dot {p : Int} (h1 : 1 ≤ p) (h2 : p ≤ 15) : (46 : UInt8) ∉ cd p := by
  have key : ∀ i : Fin 16, (46 : UInt8) ∉ Lib.decDigits i.val := by decide +kernel
  exact key ⟨p.toNat, by omega⟩
theorem cd_inj {p q : Int} (h1 : 1 ≤ p) (h2 : p ≤ 15) (h3 : 1 ≤ q) (h4 : q ≤ 15) (h : cd p = cd q) : p = q := by
  have key : ∀ i j : Fin 16, Lib.decDigits i.val = Lib.decDigits j.val → i = j := by decide +kernel
  have := key ⟨p.toNat, by omega⟩ ⟨q.toNat, by omega⟩ h
  have : p.toNat = q.toNat := by simpa using this
  omega
theorem cd_len {p : Int} (h1 : 1 ≤ p) (h2 : p ≤ 15) : 1 ≤ (cd p).length := by
  have key : ∀ i : Fin 16, 1 ≤ (Lib.decDigits i.val).length := by decide +kernel
  exact key ⟨p.toNat, by omega⟩
/-- ports, each with a point behind it -/
def dots : List Int → List UInt8
  | [] => []
  | p :: ps => cd p ++ 46 :: dots ps
theorem txt_one (p : Int) : txtL [p] = cd p := by simp [txtL, Lib.join, List.intercalate, List.intersperse, cd]
theorem txt_more (p q : Int) (P : List Int) : txtL (p :: q :: P) = cd p ++ 46 :: txtL (q :: P) := by
  simp [txtL, Lib.join, List.intercalate, List.intersperse, cd]
theorem dots_txt : ∀ (P : List Int), P ≠ [] → dots P = txtL P ++ [46]
  | [], h => absurd rfl h
  | [p], _ => by rw [txt_one]; rfl
  | p :: q :: P, _ => by
    rw [txt_more]
    show cd p ++ 46 :: dots (q :: P) = _
    rw [dots_txt (q :: P) (by simp)]
    simp
theorem sep_inj {x y u v : List UInt8} (hx : (46 : UInt8) ∉ x) (hy : (46 : UInt8) ∉ y) (h : x ++ 46 :: u = y ++ 46 :: v) : x = y ∧ u = v := by
  induction x generalizing y with
  | nil =>
    cases y with
    | nil => simp at h; exact ⟨rfl, h⟩
    | cons b y =>
      simp at h
      exact absurd (List.mem_cons.2 (.inl h.1)) hy
  | cons a x ih =>
    cases y with
    | nil =>
      simp at h
      exact absurd (List.mem_cons.2 (.inl h.1.symm)) hx
    | cons b y =>
      simp at h
      obtain ⟨rfl, h⟩ := h
      have := ih (y := y) (fun q => hx (List.mem_cons_of_mem _ q)) (fun q => hy (List.mem_cons_of_mem _ q)) h
      exact ⟨by rw [this.1], this.2⟩
theorem dots_pre : ∀ (b a : List Int), (∀ p ∈ a, 1 ≤ p ∧ p ≤ 15) → (∀ p ∈ b, 1 ≤ p ∧ p ≤ 15) → (dots b <+: dots a ↔ b <+: a)
  | [], a, _, _ => by simp [dots]
  | q :: b, [], _, _ => by
    simp [dots]
  | q :: b, p :: a, ha, hb => by
    have hp := ha p (List.mem_cons_self ..)
    have hq := hb q (List.mem_cons_self ..)
    have ih := dots_pre b a (fun r hr => ha r (List.mem_cons_of_mem _ hr)) (fun r hr => hb r (List.mem_cons_of_mem _ hr))
    rw [List.cons_prefix_cons]
    constructor
    · rintro ⟨t, ht⟩
      have ht : cd q ++ 46 :: (dots b ++ t) = cd p ++ 46 :: dots a := by simpa [dots] using ht
      obtain ⟨h1, h2⟩ := sep_inj (cd_dot hq.1 hq.2) (cd_dot hp.1 hp.2) ht
      exact ⟨cd_inj hq.1 hq.2 hp.1 hp.2 h1, ih.1 ⟨t, h2⟩⟩
    · rintro ⟨rfl, h⟩
      obtain ⟨t, ht⟩ := ih.2 h
      exact ⟨t, by
        show (cd q ++ 46 :: dots b) ++ t = cd q ++ 46 :: dots a
        rw [← ht]
        simp⟩
theorem txtL_inj {a b : List Int} (ha : ∀ p ∈ a, 1 ≤ p ∧ p ≤ 15) (hb : ∀ p ∈ b, 1 ≤ p ∧ p ≤ 15) (h0 : a ≠ []) (h1 : b ≠ []) (h : txtL a = txtL b) : a = b := by
  have e : dots a = dots b := by rw [dots_txt a h0, dots_txt b h1, h]
  have p1 := (dots_pre b a ha hb).1 (by rw [e]; exact List.prefix_refl _)
  have p2 := (dots_pre a b hb ha).1 (by rw [e]; exact List.prefix_refl _)
  exact p2.eq_of_length_le p1.length_le
theorem txt_list (P : List Int) : (txt P).data.toList = txtL P := rfl
theorem ba_ext {s t : ByteArray} (h : s.data.toList = t.data.toList) : s = t := by
  cases s; cases t; simp at h; rw [h]
theorem chk_ne {P : List Int} (h : chk P = 0) : P ≠ [] := by intro e; subst e; simp [chk] at h
theorem txt_inj {a b : List Int} (ha : chk a = 0) (hb : chk b = 0) (h : txt a = txt b) : a = b :=
  txtL_inj (chk_ok ha).2.2 (chk_ok hb).2.2 (chk_ne ha) (chk_ne hb) (by rw [← txt_list, h, txt_list])
theorem txt_size {P : List Int} (h : chk P = 0) : (txt P).size ≤ 18 := by
  have := txtL_len P (chk_ok h).2.2
  have h6 := (chk_ok h).2.1
  have e : (txt P).size = (txtL P).length := by rw [← txt_list, Array.length_toList]; rfl
  omega
end Go.Proofs.YtllfokmpnalojaaDoor.route
