/- gadget: bits: what haltOf answers, and what is put into a set of bits, and taken out. -/
import Derived.Test.YtonheibhbilhhaaZAj
import Derived.Laws.BitsAllLaws
import Derived.Laws.BitsLemmas
import Derived.Test.YtonheibhbilhhaaZAf
import Derived.Test.YtonheibhbilhhaaZAd
import Derived.Test.YtonheibhbilhhaaZAc
import Derived.Test.YtonheibhbilhhaaZAg
import Derived.Laws.Cover1
import Derived.Test.YtonheibhbilhhaaRows
namespace Go.Proofs.Ytonheibhbilhhaa.gadget
open Go.RowKit Go.PlainAid Go.Proofs.Ytonheibhbilhhaa.lane
set_option linter.unusedVariables false
set_option linter.unusedSimpArgs false

def had (h : Int) (n : Nat) : Bool := h / 2 ^ n % 2 == 1
def hOn (h : Int) (n : Nat) : Int := if had h n = true then h else h + 2 ^ n
def hOff (h : Int) (n : Nat) : Int := if had h n = true then h - 2 ^ n else h
theorem pow_le32 : ∀ j : Fin 32, (1 : Int) ≤ 2 ^ j.val ∧ (2 : Int) ^ j.val ≤ 2147483648 := by decide
theorem pow_pos (n : Nat) : (0 : Int) < 2 ^ n := by
  have := Nat.pow_pos (n := n) (show 0 < 2 by omega)
  have e : ((2 ^ n : Nat) : Int) = 2 ^ n := by simp
  omega
theorem had_nat (n k : Nat) : had (n : Int) k = decide (n / 2 ^ k % 2 = 1) := by
  unfold had
  have e : ((2 ^ k : Nat) : Int) = 2 ^ k := by simp
  rw [← e, Bool.eq_iff_iff, beq_iff_eq, decide_eq_true_eq, ← Int.natCast_ediv]
  omega
theorem or_one (q : Nat) : (q ||| 1) / 2 = q / 2 ∧ (q ||| 1) % 2 = 1 := by
  have e1 := Nat.or_div_two_pow (a := q) (b := 1) (n := 1)
  have e2 := Nat.or_mod_two_pow (a := q) (b := 1) (n := 1)
  simp at e1 e2
  refine ⟨e1, ?_⟩
  rw [e2]
  rcases Nat.mod_two_eq_zero_or_one q with h | h <;> rw [h] <;> rfl
/-- a bit is put in -/
theorem nat_or (n k : Nat) : (n ||| 2 ^ k) = if n / 2 ^ k % 2 = 1 then n else n + 2 ^ k := by
  have hP : 0 < 2 ^ k := Nat.pow_pos (by omega)
  have e1 := Nat.or_div_two_pow (a := n) (b := 2 ^ k) (n := k)
  have e2 := Nat.or_mod_two_pow (a := n) (b := 2 ^ k) (n := k)
  rw [Nat.div_self hP] at e1
  rw [Nat.mod_self, Nat.or_zero] at e2
  obtain ⟨o1, o2⟩ := or_one (n / 2 ^ k)
  rw [← e1] at o1 o2
  have d1 := Nat.div_add_mod n (2 ^ k)
  have d2 := Nat.div_add_mod (n ||| 2 ^ k) (2 ^ k)
  rw [e2] at d2
  generalize (n ||| 2 ^ k) / 2 ^ k = Q at *
  generalize n / 2 ^ k = q at *
  by_cases h : q % 2 = 1
  · have : Q = q := by omega
    rw [if_pos h, ← d2, this, d1]
  · have : Q = q + 1 := by omega
    rw [if_neg h, ← d2, this, Nat.mul_add, Nat.mul_one]
    omega
theorem mask_parts : ∀ k : Fin 32, (18446744073709551615 - 2 ^ k.val) % 2 ^ k.val = 2 ^ k.val - 1 ∧ (18446744073709551615 - 2 ^ k.val) / 2 ^ k.val % 2 = 0 ∧ (18446744073709551615 - 2 ^ k.val) / 2 ^ k.val / 2 = 2 ^ (63 - k.val) - 1 ∧ (~~~ BitVec.ofInt 64 (2 ^ k.val)).toNat = 18446744073709551615 - 2 ^ k.val ∧ (BitVec.ofInt 64 (2 ^ k.val)).toNat = 2 ^ k.val ∧ 4294967296 ≤ 2 ^ (63 - k.val) * 2 := by decide +kernel
/-- a bit is taken out -/
theorem nat_not (n k : Nat) (hk : k < 32) (hn : n < 4294967296) : (n &&& (18446744073709551615 - 2 ^ k)) = if n / 2 ^ k % 2 = 1 then n - 2 ^ k else n := by
  obtain ⟨m1, m2, m3, _, _, m6⟩ := mask_parts ⟨k, hk⟩
  simp only at m1 m2 m3 m6
  generalize 18446744073709551615 - 2 ^ k = M at *
  have hP : 0 < 2 ^ k := Nat.pow_pos (by omega)
  have e1 := Nat.and_div_two_pow (a := n) (b := M) (n := k)
  have e2 := Nat.and_mod_two_pow (a := n) (b := M) (n := k)
  have e3 := Nat.and_div_two_pow (a := n / 2 ^ k) (b := M / 2 ^ k) (n := 1)
  have e4 := Nat.and_mod_two_pow (a := n / 2 ^ k) (b := M / 2 ^ k) (n := 1)
  simp only [Nat.pow_one] at e3 e4
  rw [m1, Nat.and_two_pow_sub_one_eq_mod, Nat.mod_mod] at e2
  rw [m2, Nat.and_zero] at e4
  have hq : n / 2 ^ k / 2 < 2 ^ (63 - k) := by
    have : n / 2 ^ k ≤ n := Nat.div_le_self _ _
    omega
  rw [m3, Nat.and_two_pow_sub_one_eq_mod, Nat.mod_eq_of_lt hq] at e3
  rw [← e1] at e3 e4
  have d1 := Nat.div_add_mod n (2 ^ k)
  have d2 := Nat.div_add_mod (n &&& M) (2 ^ k)
  rw [e2] at d2
  generalize (n &&& M) / 2 ^ k = Q at *
  generalize n / 2 ^ k = q at *
  by_cases h : q % 2 = 1
  · have : q = Q + 1 := by omega
    rw [if_pos h, ← d2]
    rw [this, Nat.mul_add, Nat.mul_one] at d1
    omega
  · have : Q = q := by omega
    rw [if_neg h, ← d2, this, d1]
theorem or_i64 (h : Int) (k : Nat) (hk : k < 32) (h0 : 0 ≤ h) (h1 : h ≤ 4294967295) : bits .or .i64 h (2 ^ k) = hOn h k := by
  obtain ⟨n, rfl⟩ : ∃ n : Nat, h = (n : Int) := ⟨h.toNat, by omega⟩
  have hm := (mask_parts ⟨k, hk⟩).2.2.2.2.1
  simp only at hm
  show IntKind.i64.wrap ((BitVec.ofInt 64 (n : Int) ||| BitVec.ofInt 64 (2 ^ k)).toNat : Int) = _
  have en : (BitVec.ofInt 64 (n : Int)).toNat = n := by rw [BitVec.toNat_ofInt]; omega
  rw [BitVec.toNat_or, hm, en, nat_or]
  unfold hOn
  rw [had_nat, IntKind.wrap_i64]
  have e : ((2 ^ k : Nat) : Int) = 2 ^ k := by simp
  have hp := pow_le32 ⟨k, hk⟩
  simp only at hp
  by_cases c : n / 2 ^ k % 2 = 1
  · rw [if_pos c, if_pos (by simpa using c)]; omega
  · rw [if_neg c, if_neg (by simpa using c), ← e]; omega
theorem not_i64 (h : Int) (k : Nat) (hk : k < 32) (h0 : 0 ≤ h) (h1 : h ≤ 4294967295) : bits .andNot .i64 h (2 ^ k) = hOff h k := by
  obtain ⟨n, rfl⟩ : ∃ n : Nat, h = (n : Int) := ⟨h.toNat, by omega⟩
  have hm := (mask_parts ⟨k, hk⟩).2.2.2.1
  simp only at hm
  show IntKind.i64.wrap ((BitVec.ofInt 64 (n : Int) &&& ~~~ BitVec.ofInt 64 (2 ^ k)).toNat : Int) = _
  have en : (BitVec.ofInt 64 (n : Int)).toNat = n := by rw [BitVec.toNat_ofInt]; omega
  rw [BitVec.toNat_and, hm, en, nat_not n k hk (by omega)]
  unfold hOff
  rw [had_nat, IntKind.wrap_i64]
  have e : ((2 ^ k : Nat) : Int) = 2 ^ k := by simp
  have hp := pow_le32 ⟨k, hk⟩
  simp only at hp
  by_cases c : n / 2 ^ k % 2 = 1
  · rw [if_pos c, if_pos (by simpa using c), ← e]
    have : 2 ^ k ≤ n := by
      rcases Nat.lt_or_ge n (2 ^ k) with q | q
      · rw [Nat.div_eq_of_lt q] at c; omega
      · exact q
    omega
  · rw [if_neg c, if_neg (by simpa using c)]; omega
set_option maxRecDepth 100000 in
theorem haltOf_out (k : Nat) (hk : k < 16) (w : World) : Calls Try.prog 119 #[.int .i64 (k : Int)] w fun e w' => e = .returned (.int .i64 (2 ^ k)) ∧ w = w' := by
  have hp := pow_le32 ⟨k, by omega⟩
  simp only at hp
  go_enter Try.func119, Try.ntmps119
  go_wp2
  go_ret
  exact ⟨rfl, rfl⟩
set_option maxRecDepth 100000 in
theorem haltOf_in (k : Nat) (hk : k < 16) (w : World) : Calls Try.prog 119 #[.int .i64 (128 + (k : Int))] w fun e w' => e = .returned (.int .i64 (2 ^ (16 + k))) ∧ w = w' := by
  have hp := pow_le32 ⟨16 + k, by omega⟩
  simp only at hp
  have e1 : (16 : Int) + (128 + (k : Int)) - 128 = ((16 + k : Nat) : Int) := by omega
  go_enter Try.func119, Try.ntmps119
  go_wp2
  go_ret
  exact ⟨rfl, rfl⟩
end Go.Proofs.Ytonheibhbilhhaa.gadget

/- gadget: the plain mathematics: what is wrong with a sheet, and how a device answers. No program is named here. -/
namespace Go.Proofs.Ytonheibhbilhhaa.gadget
open Go.RowKit Go.PlainAid Go.Proofs.Ytonheibhbilhhaa.lane Go.Proofs.Ytonheibhbilhhaa.setup
open Go.Proofs.Ytonheibhbilhhaa.desc (Dv Cf Fc En wdC wdT wcT chkC dtxt)
open Go.Proofs.Ytonheibhbilhhaa.utf (werr)
set_option linter.unusedVariables false

/-- is a gadget right? -/
def gR (s a h : Int) : Bool := inS 0 2 s && (inS 0 4294967295 h && ((s == 2 || h == 0) && ((s == 0 && a == 0) || (decide (0 < s) && inS 1 127 a))))
theorem gR_iff {s a h : Int} : gR s a h = true ↔ (s = 0 ∧ a = 0 ∧ h = 0) ∨ (s = 1 ∧ 1 ≤ a ∧ a ≤ 127 ∧ h = 0) ∨ (s = 2 ∧ 1 ≤ a ∧ a ≤ 127 ∧ 0 ≤ h ∧ h ≤ 4294967295) := by
  unfold gR
  simp only [Bool.and_eq_true, Bool.or_eq_true, inS_iff, beq_iff_eq, decide_eq_true_eq]
  omega
/-- the first error that is told of a text -/
def txE : List (List Int) → Int
  | [] => 0
  | t :: r => if werr (strOfNums t) = 0 then txE r else werr (strOfNums t)
/-- the numbers of texts that a sheet speaks of -/
def nms (d : Dv) (c : Cf) : List Int := [d.ma, d.nm, d.se, c.na] ++ c.fs.map Fc.nm
/-- is one of them above n? -/
def abv (n : Int) (l : List Int) : Bool := l.any fun x => decide (n < x)
/-- what is wrong with a sheet -/
def chkS (d : Dv) (c : Cf) (T : List (List Int)) : Int :=
  if wdC d ≠ 0 then wdC d else if d.cf ≠ 1 then 4 else if chkC c ≠ 0 then chkC c else if 8 < T.length then 2 else if txE T ≠ 0 then txE T else if abv T.length (nms d c) = true then 12 else 0
structure Ans where
  s : Int
  a : Int
  h : Int
  t : ByteArray
  e : Int
abbrev noT : ByteArray := ⟨#[]⟩
/-- the descriptor that a value calls -/
def desO (d : Dv) (c : Cf) (T : List (List Int)) (v : Int) : Option ByteArray :=
  if v = 256 then some (wdT d) else if v = 512 then some (wcT c) else if v = 768 then some (strOfNums [4, 3, 9, 4])
  else if 769 ≤ v ∧ v ≤ 768 + (T.length : Int) then some (dtxt (strOfNums (T.getD (v - 769).toNat []))) else none
/-- at most l bytes of a text, from the front -/
def cutT (t : ByteArray) (l : Int) : ByteArray := t.extract 0 (min t.size l.toNat)
def numE (e : En) : Int := if e.inw = true then e.ad + 128 else e.ad
def hasF (i : Int) (fs : List Fc) : Bool := fs.any fun f => f.en.any fun e => numE e == i
def hasE (c : Cf) (i : Int) : Bool := (i == 0 || i == 128) || hasF i c.fs
/-- the bit of an endpoint -/
def bitE (i : Int) : Nat := if i < 128 then i.toNat else (i - 112).toNat
/-- an error: all stands as it stood -/
def bad (s a h e : Int) : Ans := ⟨s, a, h, noT, e⟩
/-- the answer to an ask of a right device -/
def act (d : Dv) (c : Cf) (T : List (List Int)) (s a h k v i l : Int) : Ans :=
  if k = 1 then ⟨s, a, h, strOfNums [0, 0], 0⟩
  else if k = 5 then (match desO d c T v with | none => bad s a h 8 | some t => ⟨s, a, h, cutT t l, 0⟩)
  else if k = 4 then (if s = 2 then bad s a h 8 else if v = 0 then ⟨0, 0, 0, noT, 0⟩ else ⟨1, v, 0, noT, 0⟩)
  else if k = 6 then (if s = 0 then bad s a h 8 else if v = 0 then ⟨1, a, 0, noT, 0⟩ else if v = c.va then ⟨2, a, 0, noT, 0⟩ else bad s a h 8)
  else if k = 7 then (if s = 0 then bad s a h 8 else if s = 1 then ⟨s, a, h, strOfNums [0], 0⟩ else ⟨s, a, h, strOfNums [c.va], 0⟩)
  else if k = 2 ∨ k = 3 then (if s ≠ 2 then bad s a h 8 else if hasE c i = false then bad s a h 8 else if k = 3 then ⟨s, a, hOn h (bitE i), noT, 0⟩ else ⟨s, a, hOff h (bitE i), noT, 0⟩)
  else bad s a h 12
/-- what Control answers -/
def ctl (d : Dv) (c : Cf) (T : List (List Int)) (s a h : Int) (q : ByteArray) : Ans :=
  if chkS d c T ≠ 0 then bad s a h (chkS d c T) else if gR s a h = false then bad s a h 1 else if rC q ≠ 0 then bad s a h 8 else act d c T s a h (rK q) (rN q 2) (rN q 4) (rN q 6)

/-- what is read of an ask is one that can be asked -/
theorem read_good {q : ByteArray} (h : rC q = 0) : good (rK q) (rN q 2) (rN q 4) (rN q 6) = true := by
  obtain ⟨_, h2, h3⟩ := rC_zero h
  unfold hit at h3
  rw [Bool.and_eq_true] at h3
  unfold rN
  rw [if_neg h2, if_neg h2, if_neg h2]
  exact h3.1
theorem good_addr {v i l : Int} (h : good 4 v i l = true) : 0 ≤ v ∧ v ≤ 127 := by
  unfold good fitB at h
  simp [isK, te, inS, col, row] at h
  omega
theorem good_end {k v i l : Int} (h : good k v i l = true) (hk : k = 2 ∨ k = 3) : (0 ≤ i ∧ i ≤ 15) ∨ (128 ≤ i ∧ i ≤ 143) := by
  rcases hk with rfl | rfl <;>
  · unfold good fitB at h
    simp [isK, te, isE, inS, col, row] at h
    omega
theorem bitE_lt {i : Int} (h : (0 ≤ i ∧ i ≤ 15) ∨ (128 ≤ i ∧ i ≤ 143)) : bitE i < 32 := by
  unfold bitE; split <;> omega
theorem chkS_ok {d : Dv} {c : Cf} {T : List (List Int)} (h : chkS d c T = 0) : wdC d = 0 ∧ d.cf = 1 ∧ chkC c = 0 ∧ T.length ≤ 8 ∧ txE T = 0 := by
  unfold chkS at h
  by_cases h1 : wdC d = 0
  · rw [if_neg (by omega)] at h
    by_cases h2 : d.cf = 1
    · rw [if_neg (by omega)] at h
      by_cases h3 : chkC c = 0
      · rw [if_neg (by omega)] at h
        by_cases h4 : T.length ≤ 8
        · rw [if_neg (by omega)] at h
          by_cases h5 : txE T = 0
          · exact ⟨h1, h2, h3, h4, h5⟩
          · rw [if_pos h5] at h; exact absurd h h5
        · rw [if_pos (by omega)] at h; omega
      · rw [if_pos h3] at h; exact absurd h h3
    · rw [if_pos h2] at h; omega
  · rw [if_pos h1] at h; exact absurd h h1
theorem txE_all : ∀ {T : List (List Int)}, txE T = 0 → ∀ t ∈ T, werr (strOfNums t) = 0 := by
  intro T
  induction T with
  | nil => intro _ t ht; simp at ht
  | cons x r ih =>
    intro h t ht
    unfold txE at h
    by_cases hx : werr (strOfNums x) = 0
    · rw [if_pos hx] at h
      rcases List.mem_cons.1 ht with rfl | ht
      · exact hx
      · exact ih h t ht
    · rw [if_neg hx] at h; exact absurd h hx
end Go.Proofs.Ytonheibhbilhhaa.gadget

/- gadget: a sheet in memory; what highestText and isRight answer. -/
namespace Go.Proofs.Ytonheibhbilhhaa.gadget
open Go.RowKit Go.PlainAid Go.Proofs.Ytonheibhbilhhaa.lane Go.Proofs.Ytonheibhbilhhaa.desc
open Go.Proofs.Ytonheibhbilhhaa.setup (inS inS_iff)
open Go.Proofs.Ytonheibhbilhhaa.utf (werr)
set_option linter.unusedVariables false
set_option linter.unusedSimpArgs false

/-- a sheet's value, and its cells -/
abbrev shV (d : Dv) (c : Cf) (v tv : Value) : Value := .agg #[.int .i64 d.us, .int .i64 d.cl, .int .i64 d.su, .int .i64 d.pr, .int .i64 d.m0, .int .i64 d.ve, .int .i64 d.pd, .int .i64 d.re, .int .i64 d.ma, .int .i64 d.nm, .int .i64 d.se, .int .i64 d.cf, .int .i64 c.va, .int .i64 c.na, .int .i64 c.atr, .int .i64 c.po, v, tv]
abbrev shO (d : Dv) (c : Cf) (v tv : Value) : Obj := .cells #[.int .i64 d.us, .int .i64 d.cl, .int .i64 d.su, .int .i64 d.pr, .int .i64 d.m0, .int .i64 d.ve, .int .i64 d.pd, .int .i64 d.re, .int .i64 d.ma, .int .i64 d.nm, .int .i64 d.se, .int .i64 d.cf, .int .i64 c.va, .int .i64 c.na, .int .i64 c.atr, .int .i64 c.po, v, tv] 50
structure ShC (w : World) (B : Nat) (d : Dv) (c : Cf) (v tv : Value) : Prop where
  size : B < w.heap.size
  c0 : w.cell? ⟨B, 0, none⟩ = some (.int .i64 d.us)
  c1 : w.cell? ⟨B, 1, none⟩ = some (.int .i64 d.cl)
  c2 : w.cell? ⟨B, 2, none⟩ = some (.int .i64 d.su)
  c3 : w.cell? ⟨B, 3, none⟩ = some (.int .i64 d.pr)
  c4 : w.cell? ⟨B, 4, none⟩ = some (.int .i64 d.m0)
  c5 : w.cell? ⟨B, 5, none⟩ = some (.int .i64 d.ve)
  c6 : w.cell? ⟨B, 6, none⟩ = some (.int .i64 d.pd)
  c7 : w.cell? ⟨B, 7, none⟩ = some (.int .i64 d.re)
  c8 : w.cell? ⟨B, 8, none⟩ = some (.int .i64 d.ma)
  c9 : w.cell? ⟨B, 9, none⟩ = some (.int .i64 d.nm)
  c10 : w.cell? ⟨B, 10, none⟩ = some (.int .i64 d.se)
  c11 : w.cell? ⟨B, 11, none⟩ = some (.int .i64 d.cf)
  c12 : w.cell? ⟨B, 12, none⟩ = some (.int .i64 c.va)
  c13 : w.cell? ⟨B, 13, none⟩ = some (.int .i64 c.na)
  c14 : w.cell? ⟨B, 14, none⟩ = some (.int .i64 c.atr)
  c15 : w.cell? ⟨B, 15, none⟩ = some (.int .i64 c.po)
  c16 : w.cell? ⟨B, 16, none⟩ = some v
  c17 : w.cell? ⟨B, 17, none⟩ = some tv
theorem ShC.of {w : World} {B : Nat} {d : Dv} {c : Cf} {v tv : Value} (h : w.heap[B]? = some (shO d c v tv)) : ShC w B d c v tv := by
  refine ⟨(Array.getElem?_eq_some_iff.1 h).1, ?_, ?_, ?_, ?_, ?_, ?_, ?_, ?_, ?_, ?_, ?_, ?_, ?_, ?_, ?_, ?_, ?_, ?_⟩ <;> (rw [cell_of_row w B _ _ _ (0, 0) h]; rfl)
theorem ShC.named (w : World) (d : Dv) (c : Cf) (v tv : Value) : ∃ w0, w.alloc (shO d c v tv) = w0 ∧ w0.heap[w.heap.size]? = some (shO d c v tv) ∧ Below w.heap.size w w0 := ⟨_, rfl, (MapKept.heap_alloc w _).1, balloc _ _⟩
theorem keep {w w' : World} {R : Nat} {o : Obj} (h : w.heap[R]? = some o) (hb : Below w.heap.size w w') : w'.heap[R]? = some o := (hb.block R (Array.getElem?_eq_some_iff.1 h).1).trans h
/-- what a sheet's lists hold -/
structure Shr (w : World) (c : Cf) (L : FL) (v : Value) (T : List (List Int)) (tv : Value) : Prop where
  rc : Rc w v c L
  tx : Rts w tv T
  bb : BB T
  sz : ∀ t ∈ T, t.length ≤ maxLen
theorem Shr.below {w u : World} {c : Cf} {L : FL} {v : Value} {T : List (List Int)} {tv : Value} (h : Shr w c L v T tv) (hb : Below w.heap.size w u) : Shr u c L v T tv := ⟨h.rc.below hb, h.tx.below hb, h.bb, h.sz⟩
theorem Rts.at' {w : World} {a : Option Addr} {n c : Nat} {ps : List (List Int)} (h : Rts w (.slice a n c) ps) : ∀ j p, ps[j]? = some p → ∃ g off, a = some ⟨g, off, none⟩ ∧ w.cell? ⟨g, off + j, none⟩ = some (.string (strOfNums p)) := by
  obtain ⟨a', c', e, _, _, h4⟩ := h.cell
  injection e with e1 e2 e3
  subst e1
  exact h4
theorem Rns.at' {w : World} {a : Option Addr} {n c : Nat} {es : List En} (h : Rns w (.slice a n c) es) : ∀ j e, es[j]? = some e → ∃ g off, a = some ⟨g, off, none⟩ ∧ w.cell? ⟨g, off + j * 5, none⟩ = some (.int .i64 e.ad) ∧ w.cell? ⟨g, off + j * 5 + 1, none⟩ = some (.bool e.inw) ∧ w.cell? ⟨g, off + j * 5 + 2, none⟩ = some (.int .i64 e.kd) ∧ w.cell? ⟨g, off + j * 5 + 3, none⟩ = some (.int .i64 e.mx) ∧ w.cell? ⟨g, off + j * 5 + 4, none⟩ = some (.int .i64 e.iv) := by
  obtain ⟨a', c', e, _, _, h4⟩ := h.cell
  injection e with e1 e2 e3
  subst e1
  exact h4
theorem Rfs.at' {w : World} {a : Option Addr} {n c : Nat} {L : FL} (h : Rfs w (.slice a n c) L) : ∀ j q, L[j]? = some q → ∃ g off, a = some ⟨g, off, none⟩ ∧ w.cell? ⟨g, off + j * 6, none⟩ = some (.int .i64 q.1.cl) ∧ w.cell? ⟨g, off + j * 6 + 1, none⟩ = some (.int .i64 q.1.su) ∧ w.cell? ⟨g, off + j * 6 + 2, none⟩ = some (.int .i64 q.1.pr) ∧ w.cell? ⟨g, off + j * 6 + 3, none⟩ = some (.int .i64 q.1.nm) ∧ w.cell? ⟨g, off + j * 6 + 4, none⟩ = some q.2.1 ∧ w.cell? ⟨g, off + j * 6 + 5, none⟩ = some q.2.2 := by
  obtain ⟨a', c', e, _, _, h4⟩ := h.cell
  injection e with e1 e2 e3
  subst e1
  exact h4
theorem ret_i {a b : Int} (h : a = b) : Ending.returned (.int .i64 a) = .returned (.int .i64 b) := by rw [h]
theorem ret_b {a b : Bool} (h : a = b) : Ending.returned (.bool a) = .returned (.bool b) := by rw [h]

/-- the greater one -/
def mx (x y : Int) : Int := if y > x then y else x
def hiN (d : Dv) (c : Cf) : Int := (c.fs.map Fc.nm).foldl mx (mx (mx (mx d.ma d.nm) d.se) c.na)
theorem mx_lt (n x y : Int) : n < mx x y ↔ n < x ∨ n < y := by unfold mx; split <;> omega
theorem fold_lt (n : Int) : ∀ (l : List Int) (m : Int), n < l.foldl mx m ↔ n < m ∨ abv n l = true := by
  intro l
  induction l with
  | nil => intro m; simp [abv]
  | cons x r ih =>
    intro m
    rw [List.foldl_cons, ih, mx_lt]
    simp only [abv, List.any_cons, Bool.or_eq_true, decide_eq_true_eq, or_assoc]
theorem hiN_lt (d : Dv) (c : Cf) (n : Int) : n < hiN d c ↔ abv n (nms d c) = true := by
  unfold hiN nms
  rw [fold_lt, mx_lt, mx_lt, mx_lt]
  simp only [abv, List.any_append, List.any_cons, List.any_nil, Bool.or_false, Bool.or_eq_true, decide_eq_true_eq, or_assoc]
theorem max4 (w : World) (a b c d : Int) : (Builtin.max_ #[3, 3, 3, 3] 3 #[.int .i64 a, .int .i64 b, .int .i64 c, .int .i64 d]).run Try.prog w = .ok (.int .i64 (mx (mx (mx a b) c) d)) w := by
  simp [Builtin.max_, Builtin.max2, mx]
theorem max2 (w : World) (a b : Int) : (Builtin.max_ #[3, 3] 3 #[.int .i64 a, .int .i64 b]).run Try.prog w = .ok (.int .i64 (mx a b)) w := by
  simp [Builtin.max_, Builtin.max2, mx]
set_option maxRecDepth 100000 in
set_option maxHeartbeats 4000000 in
theorem highestText_any (d : Dv) (c : Cf) (L : FL) (v tv : Value) (w : World) (h : Rc w v c L) :
    Calls Try.prog 84 #[shV d c v tv] w fun e w' => e = .returned (.int .i64 (hiN d c)) ∧ Below w.heap.size w w' := by
  obtain ⟨w0, hw0, hS, hb0⟩ := ShC.named w d c v tv
  obtain ⟨a, n, cap, rfl⟩ : ∃ a n c, v = .slice a n c := by obtain ⟨a, c, h, _⟩ := h.fs.row; exact ⟨_, _, _, h⟩
  have hn : n = L.length := by obtain ⟨a', c', e, _⟩ := h.fs.row; injection e
  have hcm : n ≤ cap ∧ cap ≤ maxLen := by obtain ⟨a', c', e, h1, h2, _⟩ := h.fs.row; injection e with e1 e2 e3; subst e2 e3; exact ⟨h1, h2⟩
  have HC : Hid (∀ u, Below w0.heap.size w0 u → ∀ j q, L[j]? = some q → ∃ g off, a = some ⟨g, off, none⟩ ∧ u.cell? ⟨g, off + j * 6, none⟩ = some (.int .i64 q.1.cl) ∧ u.cell? ⟨g, off + j * 6 + 1, none⟩ = some (.int .i64 q.1.su) ∧ u.cell? ⟨g, off + j * 6 + 2, none⟩ = some (.int .i64 q.1.pr) ∧ u.cell? ⟨g, off + j * 6 + 3, none⟩ = some (.int .i64 q.1.nm) ∧ u.cell? ⟨g, off + j * 6 + 4, none⟩ = some q.2.1 ∧ u.cell? ⟨g, off + j * 6 + 5, none⟩ = some q.2.2) :=
    fun u hu => Rfs.at' (h.fs.below (bsq hb0 hu))
  have HE : Hid (c.fs.map Fc.nm = L.map fun q => q.1.nm) := by show _ = _; rw [← h.eq, List.map_map]; rfl
  have HB0 : Hid (Below w.heap.size w w0) := hb0
  have HN : Hid (n = L.length) := hn
  obtain ⟨_, _, _, _, _, _, _, _, _, c8, c9, c10, _, _, c13, _, _, c16, _⟩ := ShC.of hS
  have hmx := max4
  have hm2 := max2
  have HH : Hid (((L.drop 0).map fun q => q.1.nm).foldl mx (mx (mx (mx d.ma d.nm) d.se) c.na) = hiN d c) := by show _ = _; unfold hiN; rw [HE.out]; rfl
  obtain ⟨hnc, hcm⟩ := hcm
  unfold maxLen at hcm
  have HF : Hid (∀ q ∈ L, (∃ a n c, q.2.1 = .slice a n c) ∧ ∃ a n c, q.2.2 = .slice a n c) := fun q hq => by
    obtain ⟨a1, c1, e1, _⟩ := (h.fs.all q hq).ex
    obtain ⟨a2, c2, e2, _⟩ := (h.fs.all q hq).en
    exact ⟨⟨_, _, _, e1⟩, ⟨_, _, _, e2⟩⟩
  generalize hiN d c = R at *
  clear h hb0 hn HE hS
  go_enter Try.func84, Try.ntmps84
  go_wp2
  clear c8 c9 c10 c13 c16 hmx
  go_loopw [3, 23] (fun mv i wr => ∃ (k : Nat) (m : Int), k ≤ n ∧ mv = .int .i64 m ∧ i = .int .i64 (k : Int) ∧ Below w0.heap.size w0 wr ∧ Hid (((L.drop k).map fun q => q.1.nm).foldl mx m = R)) (fun _ i _ => n - (intOf i).toNat)
  case atStart => exact ⟨0, _, Nat.zero_le _, rfl, rfl, Below.refl _ _, HH.out⟩
  case round =>
    obtain ⟨k, m, hk, rfl, rfl, hbr, HR⟩ := hrel
    by_cases hlt : k < n
    · have hk1 : k < L.length := by have := HN.out; omega
      obtain ⟨q, hq⟩ : ∃ q, L[k]? = some q := ⟨L[k], List.getElem?_eq_getElem hk1⟩
      obtain ⟨g, off, rfl, k0, k1, k2, k3, k4, k5⟩ := HC.out wr hbr k q hq
      obtain ⟨⟨ve1, ve2, ve3, hve⟩, ⟨vd1, vd2, vd3, hvd⟩⟩ := HF.out q (List.mem_of_getElem? hq)
      have hR := HR.out
      rw [List.drop_eq_getElem_cons hk1, show L[k] = q by rw [List.getElem?_eq_getElem hk1] at hq; injection hq, List.map_cons, List.foldl_cons] at hR
      have HH2 : Hid (((L.drop (k + 1)).map fun q => q.1.nm).foldl mx (mx m q.1.nm) = R) := hR
      obtain ⟨w3, hw3⟩ : ∃ w3, wr.alloc (.cells #[.int .i64 q.1.cl, .int .i64 q.1.su, .int .i64 q.1.pr, .int .i64 q.1.nm, q.2.1, q.2.2] 76) = w3 := ⟨_, rfl⟩
      have hb3 : Below wr.heap.size wr w3 := by rw [← hw3]; exact balloc _ _
      have HB3 : Hid (Below w0.heap.size w0 w3) := bsq hbr hb3
      obtain ⟨e0, e1, e2, e3, e4, e5⟩ := box6 (show w3.heap[wr.heap.size]? = some (.cells #[.int .i64 q.1.cl, .int .i64 q.1.su, .int .i64 q.1.pr, .int .i64 q.1.nm, q.2.1, q.2.2] 76) by rw [← hw3]; exact (MapKept.heap_alloc wr _).1)
      obtain ⟨⟨cl, su, pr, nm, ex, en⟩, ve, vd⟩ := q
      simp only at *
      subst hve hvd
      clear HC HF HR hR hq hbr hb3 e0 e1 e2 e4 e5
      go_wp2
      go_roundw
      case rel => exact ⟨k + 1, mx m nm, by omega, rfl, by go_num, HB3.out, HH2⟩
      case measure => simp [intOf]; omega
    · have hR := HR.out
      rw [List.drop_eq_nil_of_le (by have := HN.out; omega)] at hR
      have HH2 : Hid (m = R) := hR
      have HB3 : Hid (Below w0.heap.size w0 wr) := hbr
      clear HC HF HR hR hbr
      go_wp2
      go_ret
      exact ⟨ret_i HH2.out, bsq HB0.out HB3.out⟩
theorem isAddr_any (n : Int) (w : World) : Calls Try.prog 99 #[.int .i64 n] w fun e w' => e = .returned (.bool (inS 1 127 n)) ∧ w = w' := by
  unfold inS
  by_cases h : 1 ≤ n
  · rw [decide_eq_true h, Bool.true_and]
    go_enter Try.func99, Try.ntmps99
    go_wp2
    go_ret
    exact ⟨rfl, rfl⟩
  · rw [decide_eq_false h, Bool.false_and]
    go_enter Try.func99, Try.ntmps99
    go_wp2
    go_ret
    exact ⟨rfl, rfl⟩
/-- a gadget's value -/
abbrev gdV (s a h : Int) : Value := .agg #[.int .i64 s, .int .i64 a, .int .i64 h]
abbrev gdO (s a h : Int) : Obj := .cells #[.int .i64 s, .int .i64 a, .int .i64 h] 52
set_option maxHeartbeats 2000000 in
theorem isRight_any (s a h : Int) (w : World) : Calls Try.prog 86 #[gdV s a h] w fun e w' => e = .returned (.bool (gR s a h)) ∧ Below w.heap.size w w' := by
  have HA : Hid (∀ u : World, Calls Try.prog 99 #[.int .i64 a] u fun e w' => e = .returned (.bool (inS 1 127 a)) ∧ u = w') := isAddr_any a
  have HB : Hid (Below w.heap.size w (w.alloc (gdO s a h))) := balloc _ _
  by_cases h0 : s = 0
  · subst h0
    have HR : Hid ((a == 0 && h == 0) = gR 0 a h) := by show _ = _; rw [Bool.eq_iff_iff, gR_iff]; simp
    generalize gR 0 a h = r at *
    by_cases a0 : a = 0
    · have e1 : (a == 0) = true := by simpa using a0
      rw [e1, Bool.true_and] at HR
      clear a0
      go_enter Try.func86, Try.ntmps86
      go_wp2
      go_ret
      exact ⟨ret_b HR.out, HB.out⟩
    · have e1 : (a == 0) = false := by simpa using a0
      rw [e1, Bool.false_and] at HR
      clear a0
      go_enter Try.func86, Try.ntmps86
      go_wp2
      go_ret
      exact ⟨ret_b HR.out, HB.out⟩
  have n0 : (s == 0) = false := by simpa using h0
  by_cases h1 : s = 1
  · subst h1
    have HR : Hid ((inS 1 127 a && h == 0) = gR 1 a h) := by show _ = _; rw [Bool.eq_iff_iff, gR_iff]; simp [inS_iff]; omega
    generalize gR 1 a h = r at *
    generalize inS 1 127 a = x at *
    clear h0 n0
    cases x
    · rw [Bool.false_and] at HR
      go_enter Try.func86, Try.ntmps86
      go_wp2_with fail
      refine (HA.out _).mono ?_
      rintro e u ⟨rfl, rfl⟩
      go_wp2
      go_ret
      exact ⟨ret_b HR.out, HB.out⟩
    · rw [Bool.true_and] at HR
      go_enter Try.func86, Try.ntmps86
      go_wp2_with fail
      refine (HA.out _).mono ?_
      rintro e u ⟨rfl, rfl⟩
      go_wp2
      go_ret
      exact ⟨ret_b HR.out, HB.out⟩
  have n1 : (s == 1) = false := by simpa using h1
  by_cases h2 : s = 2
  · subst h2
    have HR : Hid ((inS 1 127 a && (decide (0 ≤ h) && decide (h ≤ 4294967295))) = gR 2 a h) := by show _ = _; rw [Bool.eq_iff_iff, gR_iff]; simp [inS_iff]; omega
    generalize gR 2 a h = r at *
    generalize inS 1 127 a = x at *
    clear h0 n0 h1 n1
    cases x
    · rw [Bool.false_and] at HR
      go_enter Try.func86, Try.ntmps86
      go_wp2_with fail
      refine (HA.out _).mono ?_
      rintro e u ⟨rfl, rfl⟩
      go_wp2
      go_ret
      exact ⟨ret_b HR.out, HB.out⟩
    · rw [Bool.true_and] at HR
      by_cases p0 : 0 ≤ h
      · rw [decide_eq_true p0, Bool.true_and] at HR
        go_enter Try.func86, Try.ntmps86
        go_wp2_with fail
        refine (HA.out _).mono ?_
        rintro e u ⟨rfl, rfl⟩
        go_wp2
        go_ret
        exact ⟨ret_b HR.out, HB.out⟩
      · rw [decide_eq_false p0, Bool.false_and] at HR
        go_enter Try.func86, Try.ntmps86
        go_wp2_with fail
        refine (HA.out _).mono ?_
        rintro e u ⟨rfl, rfl⟩
        go_wp2
        go_ret
        exact ⟨ret_b HR.out, HB.out⟩
  · have n2 : (s == 2) = false := by simpa using h2
    have HR : Hid (false = gR s a h) := by show _ = _; rw [Bool.eq_iff_iff, gR_iff]; simp; omega
    generalize gR s a h = r at *
    clear h0 h1 h2
    go_enter Try.func86, Try.ntmps86
    go_wp2
    go_ret
    exact ⟨ret_b HR.out, HB.out⟩
end Go.Proofs.Ytonheibhbilhhaa.gadget

/- gadget: sets of bits stay within thirty-two bits. -/
namespace Go.Proofs.Ytonheibhbilhhaa.gadget
set_option linter.unusedVariables false

theorem or_lt (n k : Nat) (hk : k < 32) (hn : n < 4294967296) : (n ||| 2 ^ k) < 4294967296 := by
  have h2 : 2 ^ k < 2 ^ 32 := Nat.pow_lt_pow_right (by omega) hk
  have := Nat.or_lt_two_pow (n := 32) (x := n) (y := 2 ^ k) (by omega) h2
  omega
theorem set_range (h : Int) (k : Nat) (hk : k < 32) (h0 : 0 ≤ h) (h1 : h ≤ 4294967295) : (0 ≤ hOn h k ∧ hOn h k ≤ 4294967295) ∧ (0 ≤ hOff h k ∧ hOff h k ≤ 4294967295) := by
  obtain ⟨n, rfl⟩ : ∃ n : Nat, h = (n : Int) := ⟨h.toNat, by omega⟩
  have e : ((2 ^ k : Nat) : Int) = 2 ^ k := by simp
  have o := or_lt n k hk (by omega)
  rw [nat_or] at o
  have hp := pow_le32 ⟨k, hk⟩
  simp only at hp
  unfold hOn hOff
  rw [had_nat]
  by_cases c : n / 2 ^ k % 2 = 1
  · rw [if_pos (by simpa using c), if_pos (by simpa using c), ← e]
    have : 2 ^ k ≤ n := by
      rcases Nat.lt_or_ge n (2 ^ k) with q | q
      · rw [Nat.div_eq_of_lt q] at c; omega
      · exact q
    omega
  · rw [if_neg c] at o
    rw [if_neg (by simpa using c), if_neg (by simpa using c), ← e]
    omega
end Go.Proofs.Ytonheibhbilhhaa.gadget

/- a sheet and a gadget as arguments: what their cells hold. -/
namespace Go.Proofs.Ytonheibhbilhhaa.gadget
open Go.ChangeShapes Go.WideShapes Go.ChangeAt Go.RowKit Go.PlainAid Go.Deep Go.Proofs.Ytonheibhbilhhaa.lane Go.Proofs.Ytonheibhbilhhaa.desc
set_option linter.unusedVariables false
set_option maxRecDepth 100000

theorem sheet_cells : Try.prog.cellsOf 50 = 18 := by kernel_rfl
theorem gad_cells : Try.prog.cellsOf 52 = 3 := by kernel_rfl
section
variable {H : Type} {enc : TypeId × Value → H} {w : World} {base : Nat} {spare : Nat → Bool} {held : Bool}
theorem bulk_mem {d : DataW H} {l : List (DataW H)} (h : d ∈ l) : Rows.uptoBulk d ≤ Rows.uptoBulkAll l := by
  induction l with
  | nil => simp at h
  | cons x r ih =>
    rw [Rows.uptoBulkAll]
    rcases List.mem_cons.1 h with rfl | h
    · omega
    · have := ih h; omega
theorem open_txsB {fuel : Nat} {v : Value} {x : DataW H × List MemPlace} (h : DataW.trod enc Try.prog w base spare held fuel 42 [v] = some x) : ∃ ps, Rts w v ps ∧ BB ps ∧ (∀ p ∈ ps, p.length ≤ maxLen) ∧ ∀ p ∈ ps, p.length ≤ Rows.uptoBulk x.1 := by
  rcases open_strs Try.underlying42 Try.underlying9 txt_cells h with ⟨hcs, _⟩ | ⟨a, len, cap, m, Sx, hcs, _, hl, hm, hmm, hx, hcell⟩
  · simp at hcs; subst hcs
    exact ⟨[], Rdg.none w 1, fun p hp => by simp at hp, fun p hp => by simp at hp, fun p hp => by simp at hp⟩
  · simp at hcs; subst hcs
    have hlm : len ≤ m := by rw [hmm]; split <;> omega
    refine ⟨(List.range len).map fun i => nums (Sx i), ?_, ?_, ?_, ?_⟩
    · have hpl : ((List.range len).map fun i => nums (Sx i)).length = len := by simp
      have := Rdg.rows (w := w) (fun p : List Int => [Value.string (strOfNums p)]) 1 (by omega) (fun _ => rfl) a ((List.range len).map fun i => nums (Sx i)) cap (by simpa using hl) hm (by
        intro i x hx r y hy
        obtain ⟨hi, rfl⟩ := range_at hx
        match r, hy with
        | 0, hy =>
          simp at hy; subst hy
          rw [str_nums, Nat.mul_one, Nat.add_zero]
          exact (hcell i (by omega)).1
        | (r + 1), hy => simp at hy)
      rw [← tcells_flat] at this
      unfold Rts
      rw [hpl] at this ⊢
      exact this
    · intro p hp
      obtain ⟨i, _, rfl⟩ := List.mem_map.1 hp
      exact nums_byt _
    · intro p hp
      obtain ⟨i, hi, rfl⟩ := List.mem_map.1 hp
      rw [nums_length]
      exact (hcell i (by have := List.mem_range.1 hi; omega)).2
    · intro p hp
      obtain ⟨i, hi, rfl⟩ := List.mem_map.1 hp
      rw [hx]
      have hmem : (DataW.lit (.string (Sx i).data.toList) : DataW H) ∈ (List.range len).map fun i => .lit (.string (Sx i).data.toList) := List.mem_map.2 ⟨i, hi, rfl⟩
      have h1 := bulk_mem hmem
      rw [Rows.uptoBulk] at h1
      show _ ≤ Rows.uptoBulk (DataW.slice _ _)
      rw [Rows.uptoBulk, nums_length]
      have e : (Sx i).data.toList.length = (Sx i).size := by rw [Array.length_toList]; rfl
      omega
theorem open_dev {fuel : Nat} {cs : List Value} {x : DataW H × List MemPlace} (h : DataW.trod enc Try.prog w base spare held fuel 23 cs = some x) :
    ∃ d : Dv, cs = [.int .i64 d.us, .int .i64 d.cl, .int .i64 d.su, .int .i64 d.pr, .int .i64 d.m0, .int .i64 d.ve, .int .i64 d.pd, .int .i64 d.re, .int .i64 d.ma, .int .i64 d.nm, .int .i64 d.se, .int .i64 d.cf] := by
  obtain ⟨xs, n, _, hx, hlen, hxl, hfs⟩ := DataW.trod_struct Try.underlying23 h
  rw [dev_cells] at hlen
  match cs, hlen with
  | [c0, c1, c2, c3, c4, c5, c6, c7, c8, c9, c10, c11], _ =>
    match xs, hxl with
    | [y0, y1, y2, y3, y4, y5, y6, y7, y8, y9, y10, y11], _ =>
      have g0 := hfs 0 _ rfl
      have g1 := hfs 1 _ rfl
      have g2 := hfs 2 _ rfl
      have g3 := hfs 3 _ rfl
      have g4 := hfs 4 _ rfl
      have g5 := hfs 5 _ rfl
      have g6 := hfs 6 _ rfl
      have g7 := hfs 7 _ rfl
      have g8 := hfs 8 _ rfl
      have g9 := hfs 9 _ rfl
      have g10 := hfs 10 _ rfl
      have g11 := hfs 11 _ rfl
      simp [int_cells] at g0 g1 g2 g3 g4 g5 g6 g7 g8 g9 g10 g11
      obtain ⟨k0, e0, _, _⟩ := DataW.trod_int Try.underlying3 g0
      obtain ⟨k1, e1, _, _⟩ := DataW.trod_int Try.underlying3 g1
      obtain ⟨k2, e2, _, _⟩ := DataW.trod_int Try.underlying3 g2
      obtain ⟨k3, e3, _, _⟩ := DataW.trod_int Try.underlying3 g3
      obtain ⟨k4, e4, _, _⟩ := DataW.trod_int Try.underlying3 g4
      obtain ⟨k5, e5, _, _⟩ := DataW.trod_int Try.underlying3 g5
      obtain ⟨k6, e6, _, _⟩ := DataW.trod_int Try.underlying3 g6
      obtain ⟨k7, e7, _, _⟩ := DataW.trod_int Try.underlying3 g7
      obtain ⟨k8, e8, _, _⟩ := DataW.trod_int Try.underlying3 g8
      obtain ⟨k9, e9, _, _⟩ := DataW.trod_int Try.underlying3 g9
      obtain ⟨k10, e10, _, _⟩ := DataW.trod_int Try.underlying3 g10
      obtain ⟨k11, e11, _, _⟩ := DataW.trod_int Try.underlying3 g11
      simp at e0 e1 e2 e3 e4 e5 e6 e7 e8 e9 e10 e11
      subst e0 e1 e2 e3 e4 e5 e6 e7 e8 e9 e10 e11
      exact ⟨⟨k0, k1, k2, k3, k4, k5, k6, k7, k8, k9, k10, k11⟩, rfl⟩
theorem open_cfg {fuel : Nat} {cs : List Value} {x : DataW H × List MemPlace} (h : DataW.trod enc Try.prog w base spare held fuel 26 cs = some x) :
    ∃ (c : Cf) (u : Value) (L : FL), cs = [.int .i64 c.va, .int .i64 c.na, .int .i64 c.atr, .int .i64 c.po, u] ∧ Rc w u c L := by
  obtain ⟨xs, n, _, hx, hlen, hxl, hfs⟩ := DataW.trod_struct Try.underlying26 h
  rw [conf_cells] at hlen
  match cs, hlen with
  | [c0, c1, c2, c3, c4], _ =>
    have g0 := hfs 0 _ rfl
    have g1 := hfs 1 _ rfl
    have g2 := hfs 2 _ rfl
    have g3 := hfs 3 _ rfl
    have g4 := hfs 4 _ rfl
    match xs, hxl with
    | [y0, y1, y2, y3, y4], _ =>
      simp [int_cells, fcs_cells] at g0 g1 g2 g3 g4
      obtain ⟨k0, e0, _, _⟩ := DataW.trod_int Try.underlying3 g0
      obtain ⟨k1, e1, _, _⟩ := DataW.trod_int Try.underlying3 g1
      obtain ⟨k2, e2, _, _⟩ := DataW.trod_int Try.underlying3 g2
      obtain ⟨k3, e3, _, _⟩ := DataW.trod_int Try.underlying3 g3
      obtain ⟨L, hL⟩ := open_fcs g4
      simp at e0 e1 e2 e3
      subst e0 e1 e2 e3
      exact ⟨⟨k0, k1, k2, k3, L.map Prod.fst⟩, c4, L, rfl, hL, rfl⟩
theorem sh_open {r : Reach} {b0 : Nat} {v : Value} {x : DataW H} {p : List MemPlace} (hv : Value.okWide Try.prog w r b0 50 v) (h : DataW.Trod enc Try.prog w base spare held 50 v x p) :
    ∃ (d : Dv) (c : Cf) (L : FL) (u : Value) (T : List (List Int)) (tv : Value), v = shV d c u tv ∧ Shr w c L u T tv ∧ ∀ t ∈ T, t.length ≤ Rows.uptoBulk x := by
  obtain ⟨cs, rfl, hsz⟩ := okWide_struct Try.underlying50 hv
  obtain ⟨fuel, hf⟩ := h
  obtain ⟨xs, n, _, hx, _, hxl, hfs⟩ := DataW.trod_struct Try.underlying50 hf
  obtain ⟨l⟩ := cs
  have hl5 : l.length = 18 := hsz.trans sheet_cells
  match l, hl5 with
  | [c0, c1, c2, c3, c4, c5, c6, c7, c8, c9, c10, c11, c12, c13, c14, c15, c16, c17], _ =>
    match xs, hxl with
    | [y0, y1, y2], _ =>
      have g0 := hfs 0 _ rfl
      have g1 := hfs 1 _ rfl
      have g2 := hfs 2 _ rfl
      simp [Value.cells, dev_cells, conf_cells, txs_cells] at g0 g1 g2
      obtain ⟨d, e0⟩ := open_dev g0
      obtain ⟨c, u, L, e1, hc⟩ := open_cfg g1
      obtain ⟨T, t1, t2, t3, t4⟩ := open_txsB g2
      simp only [List.cons.injEq, and_true] at e0 e1
      obtain ⟨rfl, rfl, rfl, rfl, rfl, rfl, rfl, rfl, rfl, rfl, rfl, rfl⟩ := e0
      obtain ⟨rfl, rfl, rfl, rfl, rfl⟩ := e1
      refine ⟨d, c, L, _, T, _, rfl, ⟨hc, t1, t2, t3⟩, fun t ht => ?_⟩
      have := t4 t ht
      simp at hx
      rw [hx.1, Rows.uptoBulk]
      simp only [Rows.uptoBulkAll]
      omega
theorem gd_open {r : Reach} {b0 : Nat} {v : Value} {x : DataW H} {p : List MemPlace} (hv : Value.okWide Try.prog w r b0 52 v) (h : DataW.Trod enc Try.prog w base spare held 52 v x p) :
    ∃ s a h : Int, v = gdV s a h := by
  obtain ⟨cs, rfl, hsz⟩ := okWide_struct Try.underlying52 hv
  obtain ⟨fuel, hf⟩ := h
  obtain ⟨xs, n, _, hx, _, hxl, hfs⟩ := DataW.trod_struct Try.underlying52 hf
  obtain ⟨l⟩ := cs
  have hl5 : l.length = 3 := hsz.trans gad_cells
  match l, hl5 with
  | [c0, c1, c2], _ =>
    match xs, hxl with
    | [y0, y1, y2], _ =>
      have g0 := hfs 0 _ rfl
      have g1 := hfs 1 _ rfl
      have g2 := hfs 2 _ rfl
      simp [Value.cells, int_cells] at g0 g1 g2
      obtain ⟨k0, e0, _, _⟩ := DataW.trod_int Try.underlying3 g0
      obtain ⟨k1, e1, _, _⟩ := DataW.trod_int Try.underlying3 g1
      obtain ⟨k2, e2, _, _⟩ := DataW.trod_int Try.underlying3 g2
      simp at e0 e1 e2
      subst e0 e1 e2
      exact ⟨k0, k1, k2, rfl⟩
end
end Go.Proofs.Ytonheibhbilhhaa.gadget
