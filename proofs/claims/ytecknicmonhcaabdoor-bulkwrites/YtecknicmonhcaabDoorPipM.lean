/- pipe: the plain mathematics: a try, tries in a row, and how they are counted. No program is named here. -/
import Derived.WalkKit
namespace Go.Proofs.YtecknicmonhcaabDoor.pipe
set_option linter.unusedVariables false

/-- a pipe: the two bits, what is left, what was taken -/
structure Pp where
  s : Int
  q : Int
  L : List ByteArray
  G : List ByteArray
def zP : Pp := ⟨0, 0, [], []⟩
/-- what the other side does -/
def arrP (p : Pp) (x : ByteArray) : Pp := if p.s = p.q then ⟨p.s, 1 - p.q, p.L, p.G ++ [x]⟩ else p
/-- a try -/
def sendP (p : Pp) (f : Int) : Pp :=
  match p.L with
  | [] => p
  | x :: r =>
    if f = 1 then ⟨1 - p.s, (arrP p x).q, r, (arrP p x).G⟩
    else if f = 3 then arrP p x else p
def bitB (n : Int) : Bool := n == 0 || n == 1
def fateB (n : Int) : Bool := n == 1 || n == 2 || n == 3 || n == 4 || n == 5
def argB (p : Pp) (f : Int) : Bool := bitB p.s && bitB p.q && fateB f
/-- what Step answers -/
def stC (p : Pp) (f : Int) : Int := if argB p f = false then 1 else if 200 < p.L.length ∨ 200 < p.G.length then 2 else 0
def stP (p : Pp) (f : Int) : Pp := if stC p f = 0 then sendP p f else zP
/-- what New answers -/
def nwC (T : List ByteArray) : Int := if 200 < T.length then 2 else 0
def nwP (T : List ByteArray) : Pp := if 200 < T.length then zP else ⟨0, 0, T, []⟩
/-- what Run answers -/
def rnC (T : List ByteArray) (F : List Int) : Int := if 200 < T.length then 2 else if 1000 < F.length then 2 else if F.all fateB = false then 1 else 0
def runP (p : Pp) (F : List Int) : Pp := F.foldl sendP p
def rnP (T : List ByteArray) (F : List Int) : Pp := if rnC T F = 0 then runP ⟨0, 0, T, []⟩ F else zP
theorem runP_nil (p : Pp) : runP p [] = p := rfl
theorem runP_cons (p : Pp) (f : Int) (F : List Int) : runP p (f :: F) = runP (sendP p f) F := rfl
theorem fate_iff (f : Int) : fateB f = true ↔ 1 ≤ f ∧ f ≤ 5 := by
  unfold fateB
  simp only [Bool.or_eq_true, beq_iff_eq]
  omega
theorem bit_iff (f : Int) : bitB f = true ↔ 0 ≤ f ∧ f ≤ 1 := by
  unfold bitB
  simp only [Bool.or_eq_true, beq_iff_eq]
  omega
theorem send_none {p : Pp} (f : Int) (h : p.L = []) : sendP p f = p := by unfold sendP; rw [h]
theorem send_still {p : Pp} {f : Int} (h1 : ¬ f = 1) (h3 : ¬ f = 3) : sendP p f = p := by
  unfold sendP
  cases p.L with
  | nil => rfl
  | cons x r => simp only [if_neg h1, if_neg h3]
theorem send_good {p : Pp} {x : ByteArray} {r : List ByteArray} (h : p.L = x :: r) : sendP p 1 = ⟨1 - p.s, (arrP p x).q, r, (arrP p x).G⟩ := by
  unfold sendP; rw [h]; simp
theorem send_deaf {p : Pp} {x : ByteArray} {r : List ByteArray} (h : p.L = x :: r) : sendP p 3 = arrP p x := by
  unfold sendP; rw [h]; simp

/-- how many were told, how many arrived -/
def cs (n : Nat) (c : Nat × Nat) (f : Int) : Nat × Nat :=
  if c.1 < n ∧ (f = 1 ∨ f = 3) then (if f = 1 then c.1 + 1 else c.1, c.1 + 1) else c
def cnt (n : Nat) (F : List Int) : Nat × Nat := F.foldl (cs n) (0, 0)
def atP (T : List ByteArray) (c : Nat × Nat) : Pp := ⟨((c.1 % 2 : Nat) : Int), ((c.2 % 2 : Nat) : Int), T.drop c.1, T.take c.2⟩
def okc (n : Nat) (c : Nat × Nat) : Prop := c.1 ≤ c.2 ∧ c.2 ≤ c.1 + 1 ∧ c.2 ≤ n
theorem okc_zero (n : Nat) : okc n (0, 0) := ⟨Nat.le_refl _, Nat.zero_le _, Nat.zero_le _⟩
theorem okc_cs {n : Nat} {c : Nat × Nat} (h : okc n c) (f : Int) : okc n (cs n c f) := by
  obtain ⟨h1, h2, h3⟩ := h
  unfold cs
  by_cases hc : c.1 < n ∧ (f = 1 ∨ f = 3)
  · rw [if_pos hc]
    have := hc.1
    by_cases hf : f = 1
    · rw [if_pos hf]; exact ⟨Nat.le_refl _, by omega, by omega⟩
    · rw [if_neg hf]; exact ⟨by simp, by simp, by simp; omega⟩
  · rw [if_neg hc]; exact ⟨h1, h2, h3⟩
theorem okc_fold {n : Nat} (F : List Int) : ∀ {c : Nat × Nat}, okc n c → okc n (F.foldl (cs n) c) := by
  induction F with
  | nil => intro c h; exact h
  | cons f F ih => intro c h; exact ih (okc_cs h f)
theorem mod_turn (k : Nat) : (1 : Int) - ((k % 2 : Nat) : Int) = (((k + 1) % 2 : Nat) : Int) := by omega
theorem arr_at {T : List ByteArray} {c : Nat × Nat} (h : okc T.length c) (hl : c.1 < T.length) : arrP (atP T c) (T[c.1]) = atP T (c.1, c.1 + 1) := by
  obtain ⟨h1, h2, h3⟩ := h
  obtain ⟨t, g⟩ := c
  simp only at *
  unfold arrP atP
  simp only
  by_cases he : g = t
  · subst he
    rw [if_pos rfl, mod_turn, List.take_succ_eq_append_getElem hl]
  · have hg : g = t + 1 := by omega
    subst hg
    rw [if_neg (by omega)]
theorem send_at {T : List ByteArray} {c : Nat × Nat} (h : okc T.length c) (f : Int) : sendP (atP T c) f = atP T (cs T.length c f) := by
  by_cases hl : c.1 < T.length
  · have hL : (atP T c).L = T[c.1] :: T.drop (c.1 + 1) := List.drop_eq_getElem_cons hl
    have ha := arr_at h hl
    by_cases h1 : f = 1
    · subst h1
      rw [send_good hL, ha]
      unfold cs
      rw [if_pos ⟨hl, .inl rfl⟩, if_pos rfl]
      unfold atP
      simp only [mod_turn]
    · by_cases h3 : f = 3
      · subst h3
        rw [send_deaf hL, ha]
        unfold cs
        rw [if_pos ⟨hl, .inr rfl⟩, if_neg h1]
      · rw [send_still h1 h3]
        unfold cs
        rw [if_neg (by rintro ⟨_, q | q⟩ <;> contradiction)]
  · have hL : (atP T c).L = [] := List.drop_eq_nil_of_le (by omega)
    rw [send_none f hL]
    unfold cs
    rw [if_neg (fun q => hl q.1)]
theorem run_at {T : List ByteArray} (F : List Int) : ∀ {c : Nat × Nat}, okc T.length c → runP (atP T c) F = atP T (F.foldl (cs T.length) c) := by
  induction F with
  | nil => intro c _; rfl
  | cons f F ih =>
    intro c h
    rw [runP_cons, send_at h, ih (okc_cs h f)]
    rfl
theorem start_at (T : List ByteArray) : (⟨0, 0, T, []⟩ : Pp) = atP T (0, 0) := rfl
theorem run_cnt (T : List ByteArray) (F : List Int) : runP ⟨0, 0, T, []⟩ F = atP T (cnt T.length F) := by
  rw [start_at, run_at F (okc_zero _)]; rfl
theorem okc_cnt (n : Nat) (F : List Int) : okc n (cnt n F) := okc_fold F (okc_zero n)
theorem atP_left (T : List ByteArray) (c : Nat × Nat) : (atP T c).L.length = T.length - c.1 := List.length_drop ..
theorem atP_got {T : List ByteArray} {c : Nat × Nat} (h : okc T.length c) : (atP T c).G.length = c.2 := by
  show (T.take c.2).length = _
  rw [List.length_take, Nat.min_eq_left h.2.2]
/-- how many are good -/
def gds (F : List Int) : Nat := F.countP (fun f => f == 1)
theorem gds_cons (f : Int) (F : List Int) : gds (f :: F) = gds F + (if f = 1 then 1 else 0) := by
  unfold gds
  rw [List.countP_cons]
  by_cases h : f = 1 <;> simp [h]
theorem cs_fst (n : Nat) (c : Nat × Nat) (f : Int) : (cs n c f).1 = if c.1 < n ∧ f = 1 then c.1 + 1 else c.1 := by
  unfold cs
  by_cases hc : c.1 < n ∧ (f = 1 ∨ f = 3)
  · rw [if_pos hc]
    by_cases hf : f = 1
    · rw [if_pos hf, if_pos ⟨hc.1, hf⟩]
    · rw [if_neg hf, if_neg (fun q => hf q.2)]
  · rw [if_neg hc, if_neg (fun q => hc ⟨q.1, .inl q.2⟩)]
theorem told_fold {n : Nat} (F : List Int) : ∀ {c : Nat × Nat}, c.1 ≤ n → (F.foldl (cs n) c).1 = min n (c.1 + gds F) := by
  induction F with
  | nil => intro c h; simp [gds]; omega
  | cons f F ih =>
    intro c h
    have h1 := cs_fst n c f
    by_cases hc : c.1 < n ∧ f = 1
    · rw [if_pos hc] at h1
      rw [List.foldl_cons, gds_cons, ih (by omega), h1, if_pos hc.2]; omega
    · rw [if_neg hc] at h1
      rw [List.foldl_cons, gds_cons, ih (by omega), h1]
      by_cases hf : f = 1
      · rw [if_pos hf]
        have : ¬ c.1 < n := fun q => hc ⟨q, hf⟩
        omega
      · rw [if_neg hf]; omega
theorem told_cnt (n : Nat) (F : List Int) : (cnt n F).1 = min n (gds F) := by
  unfold cnt
  rw [told_fold F (Nat.zero_le _)]
  simp
/-- tries one by one -/
theorem st_at {T : List ByteArray} {c : Nat × Nat} {f : Int} (h : okc T.length c) (hT : T.length ≤ 200) (hf : fateB f = true) : stC (atP T c) f = 0 ∧ stP (atP T c) f = sendP (atP T c) f := by
  have hz : stC (atP T c) f = 0 := by
    have hb : ∀ k : Nat, bitB ((k % 2 : Nat) : Int) = true := fun k => by rw [bit_iff]; omega
    have hl := atP_left T c
    have hg := atP_got h
    have hc := h.2.2
    unfold stC argB
    rw [show (atP T c).s = ((c.1 % 2 : Nat) : Int) from rfl, show (atP T c).q = ((c.2 % 2 : Nat) : Int) from rfl, hb, hb, hf, if_neg (by decide), if_neg (by omega)]
  exact ⟨hz, by unfold stP; rw [if_pos hz]⟩
end Go.Proofs.YtecknicmonhcaabDoor.pipe
