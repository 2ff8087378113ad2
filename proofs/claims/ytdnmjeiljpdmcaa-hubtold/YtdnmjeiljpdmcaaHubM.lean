/- hub: the plain mathematics: a hub as a row of 33 numbers. No program is named here. -/
import Derived.Test.YtdnmjeiljpdmcaaSltM
namespace Go.Proofs.Ytdnmjeiljpdmcaa.hub
open Go.Proofs.Ytdnmjeiljpdmcaa.slots (cl cl_at cl_set cl_ext allF allF_step allF_end allF_iff anyF)
set_option linter.unusedVariables false
set_option linter.unusedSimpArgs false

def cn (F : List Int) : Int := cl F 0
def sta (F : List Int) (k : Nat) : Int := cl F (1 + k * 2)
def chg (F : List Int) (k : Nat) : Int := cl F (1 + k * 2 + 1)
/-- port k is written over -/
def setP (F : List Int) (k : Nat) (s c : Int) : List Int := (F.set (1 + k * 2) s).set (1 + k * 2 + 1) c
theorem setP_len (F : List Int) (k : Nat) (s c : Int) : (setP F k s c).length = F.length := by simp [setP]
theorem setP_cn (F : List Int) (k : Nat) (s c : Int) : cn (setP F k s c) = cn F := by
  unfold cn setP; rw [cl_set, cl_set, if_neg (by omega), if_neg (by omega)]
theorem setP_sta {F : List Int} {k j : Nat} {s c : Int} (hF : F.length = 33) (hk : k < 16) : sta (setP F k s c) j = if j = k then s else sta F j := by
  unfold sta setP
  rw [cl_set, if_neg (by omega), cl_set]
  by_cases h : j = k
  · rw [if_pos (by omega), if_pos h]
  · rw [if_neg (by omega), if_neg h]
theorem setP_chg {F : List Int} {k j : Nat} {s c : Int} (hF : F.length = 33) (hk : k < 16) : chg (setP F k s c) j = if j = k then c else chg F j := by
  unfold chg setP
  rw [cl_set, List.length_set]
  by_cases h : j = k
  · rw [if_pos (by omega), if_pos h]
  · rw [if_neg (by omega), if_neg h, cl_set, if_neg (by omega)]
theorem hub_ext {F G : List Int} (h1 : F.length = 33) (h2 : G.length = 33) (h : cn F = cn G) (hp : ∀ k, k < 16 → sta F k = sta G k ∧ chg F k = chg G k) : F = G := by
  refine cl_ext h1 h2 fun j hj => ?_
  by_cases j0 : j = 0
  · rw [j0]; exact h
  by_cases jo : j % 2 = 1
  · have := (hp (j / 2) (by omega)).1
    unfold sta at this
    rw [show 1 + j / 2 * 2 = j by omega] at this
    exact this
  · have := (hp (j / 2 - 1) (by omega)).2
    unfold chg at this
    rw [show 1 + (j / 2 - 1) * 2 + 1 = j by omega] at this
    exact this
theorem setP_self {F : List Int} {k : Nat} (hF : F.length = 33) (hk : k < 16) : setP F k (sta F k) (chg F k) = F := by
  refine hub_ext (by rw [setP_len, hF]) hF (setP_cn _ _ _ _) fun j hj => ?_
  rw [setP_sta hF hk, setP_chg hF hk]
  by_cases h : j = k
  · rw [if_pos h, if_pos h, h]; exact ⟨rfl, rfl⟩
  · rw [if_neg h, if_neg h]; exact ⟨rfl, rfl⟩
theorem setP_twice {F : List Int} {k : Nat} {s c s' c' : Int} (hF : F.length = 33) (hk : k < 16) : setP (setP F k s c) k s' c' = setP F k s' c' := by
  have h1 : (setP F k s c).length = 33 := by rw [setP_len, hF]
  refine hub_ext (by rw [setP_len, h1]) (by rw [setP_len, hF]) (by rw [setP_cn, setP_cn, setP_cn]) fun j hj => ?_
  rw [setP_sta h1 hk, setP_chg h1 hk, setP_sta hF hk, setP_chg hF hk, setP_sta hF hk, setP_chg hF hk]
  by_cases h : j = k
  · simp [h]
  · simp [h]
def stB (s : Int) : Bool := s == 0 || s == 256 || s == 257 || s == 259 || s == 273
def chB (c : Int) : Bool := (decide (0 ≤ c) && decide (c ≤ 3)) || (decide (16 ≤ c) && decide (c ≤ 19))
theorem stB_iff {s : Int} : stB s = true ↔ s = 0 ∨ s = 256 ∨ s = 257 ∨ s = 259 ∨ s = 273 := by simp [stB]; omega
theorem chB_iff {c : Int} : chB c = true ↔ c = 0 ∨ c = 1 ∨ c = 2 ∨ c = 3 ∨ c = 16 ∨ c = 17 ∨ c = 18 ∨ c = 19 := by simp [chB]; omega
def rgt (s c : Int) : Bool := stB s && chB c
theorem rgt_iff {s c : Int} : rgt s c = true ↔ stB s = true ∧ chB c = true := by simp [rgt]
/-- is n a port? -/
def isP (F : List Int) (n : Int) : Bool := decide (1 ≤ n) && decide (n ≤ cn F)
theorem isP_iff {F : List Int} {n : Int} : isP F n = true ↔ 1 ≤ n ∧ n ≤ cn F := by simp [isP]
def cnB (F : List Int) : Bool := decide (1 ≤ cn F) && decide (cn F ≤ 15)
def okP (F : List Int) (k : Nat) : Bool := rgt (sta F k) (chg F k) && (isP F k || (sta F k == 0 && chg F k == 0))
def chk (F : List Int) : Int := if cnB F = false then 1 else if allF 16 (okP F) 0 = true then 0 else 4
/-- a hub that is right -/
structure Ok (F : List Int) : Prop where
  len : F.length = 33
  lo : 1 ≤ cn F
  hi : cn F ≤ 15
  at' : ∀ k, k < 16 → okP F k = true
theorem chk_ok {F : List Int} (hF : F.length = 33) (h : chk F = 0) : Ok F := by
  unfold chk at h
  by_cases c : cnB F = false
  · rw [if_pos c] at h; omega
  · rw [if_neg c] at h
    by_cases q : allF 16 (okP F) 0 = true
    · have hc : cnB F = true := by simpa using c
      simp [cnB] at hc
      exact ⟨hF, hc.1, hc.2, fun k hk => allF_iff.1 q k (by omega) hk⟩
    · rw [if_neg q] at h; omega
theorem Ok.chk {F : List Int} (h : Ok F) : chk F = 0 := by
  unfold hub.chk
  have hc : cnB F = true := by simp [cnB, h.lo, h.hi]
  rw [if_neg (by rw [hc]; decide), if_pos (allF_iff.2 fun k _ hk => h.at' k hk)]
theorem chk_cases {F : List Int} (hF : F.length = 33) : Ok F ∨ (chk F = 1 ∨ chk F = 4) := by
  by_cases h : hub.chk F = 0
  · exact .inl (chk_ok hF h)
  · right
    unfold hub.chk at h ⊢
    by_cases c : cnB F = false
    · left; rw [if_pos c]
    · rw [if_neg c] at h ⊢
      by_cases q : allF 16 (okP F) 0 = true
      · rw [if_pos q] at h; omega
      · right; rw [if_neg q]
theorem Ok.rgt {F : List Int} (h : Ok F) {k : Nat} (hk : k < 16) : rgt (sta F k) (chg F k) = true := by
  have := h.at' k hk
  unfold okP at this
  rw [Bool.and_eq_true] at this
  exact this.1
theorem Ok.st {F : List Int} (h : Ok F) {k : Nat} (hk : k < 16) : sta F k = 0 ∨ sta F k = 256 ∨ sta F k = 257 ∨ sta F k = 259 ∨ sta F k = 273 := stB_iff.1 (rgt_iff.1 (h.rgt hk)).1
theorem Ok.ch {F : List Int} (h : Ok F) {k : Nat} (hk : k < 16) : chg F k = 0 ∨ chg F k = 1 ∨ chg F k = 2 ∨ chg F k = 3 ∨ chg F k = 16 ∨ chg F k = 17 ∨ chg F k = 18 ∨ chg F k = 19 := chB_iff.1 (rgt_iff.1 (h.rgt hk)).2
theorem Ok.none {F : List Int} (h : Ok F) {k : Nat} (hk : k < 16) (hn : isP F k = false) : sta F k = 0 ∧ chg F k = 0 := by
  have := h.at' k hk
  unfold okP at this
  rw [hn, Bool.false_or, Bool.and_eq_true, Bool.and_eq_true] at this
  simpa using this.2
theorem Ok.set {F : List Int} (h : Ok F) {k : Nat} {s c : Int} (hk : isP F k = true) (hr : hub.rgt s c = true) : Ok (setP F k s c) := by
  have hk16 : k < 16 := by have := isP_iff.1 hk; have := h.hi; omega
  refine ⟨by rw [setP_len, h.len], by rw [setP_cn]; exact h.lo, by rw [setP_cn]; exact h.hi, fun j hj => ?_⟩
  unfold okP
  rw [setP_sta h.len hk16, setP_chg h.len hk16]
  have e : isP (setP F k s c) j = isP F j := by unfold isP; rw [setP_cn]
  rw [e]
  by_cases q : j = k
  · rw [if_pos q, if_pos q, hr, q, hk]; rfl
  · rw [if_neg q, if_neg q]; exact h.at' j hj
/-- a bit put in, or taken out -/
def with' (n b : Int) : Int := if n / b % 2 = 1 then n else n + b
def less (n b : Int) : Int := with' n b - b
/-- what Plug makes of a port that has power -/
def plgS (s : Int) (t : Bool) : Int := if t = decide (256 < s) then s else if t = true then 257 else 256
def plgC (s c : Int) (t : Bool) : Int := if t = decide (256 < s) then c else if t = true then with' c 1 else if s = 259 then with' (with' c 1) 2 else with' c 1
def plugC (F : List Int) (n : Int) : Int := if chk F ≠ 0 then chk F else if isP F n = false then 12 else if sta F n.toNat = 0 then 8 else 0
def plugV (F : List Int) (n : Int) (t : Bool) : List Int := if plugC F n ≠ 0 then F else setP F n.toNat (plgS (sta F n.toNat) t) (plgC (sta F n.toNat) (chg F n.toNat) t)
/-- what Tick makes of the ports below k -/
def tkN (F : List Int) : Nat → List Int
  | 0 => F
  | k + 1 => if sta F k = 273 then setP (tkN F k) k 259 (with' (chg F k) 16) else tkN F k
def tickV (F : List Int) : List Int := if chk F ≠ 0 then F else tkN F 16
def tS (s : Int) : Int := if s = 273 then 259 else s
def tC (s c : Int) : Int := if s = 273 then with' c 16 else c
theorem tkN_len (F : List Int) : ∀ k, (tkN F k).length = F.length
  | 0 => rfl
  | k + 1 => by
    unfold tkN
    split
    · rw [setP_len, tkN_len]
    · exact tkN_len F k
theorem tkN_cn (F : List Int) : ∀ k, cn (tkN F k) = cn F
  | 0 => rfl
  | k + 1 => by
    unfold tkN
    split
    · rw [setP_cn, tkN_cn]
    · exact tkN_cn F k
theorem tkN_at {F : List Int} (hF : F.length = 33) : ∀ k, k ≤ 16 → ∀ j, sta (tkN F k) j = (if j < k then tS (sta F j) else sta F j) ∧ chg (tkN F k) j = (if j < k then tC (sta F j) (chg F j) else chg F j)
  | 0, _, j => ⟨rfl, rfl⟩
  | k + 1, hk, j => by
    have ih := tkN_at hF k (by omega) j
    have hl : (tkN F k).length = 33 := by rw [tkN_len, hF]
    have e1 : ∀ j, (j < k + 1 ↔ j < k ∨ j = k) := fun j => by omega
    by_cases h : sta F k = 273
    · have e : tkN F (k + 1) = setP (tkN F k) k 259 (with' (chg F k) 16) := by rw [tkN, if_pos h]
      rw [e, setP_sta hl (by omega), setP_chg hl (by omega), ih.1, ih.2]
      by_cases q : j = k
      · subst q
        simp [tS, tC, h]
      · simp [q, e1]
    · have e : tkN F (k + 1) = tkN F k := by rw [tkN, if_neg h]
      rw [e, ih.1, ih.2]
      by_cases q : j = k
      · subst q
        simp [tS, tC, h]
      · simp [q, e1]
/-- what an ask makes of a port -/
def dnS (on : Bool) (v s : Int) : Int :=
  if on = true then (if v = 8 then (if s = 0 then 256 else s) else if v = 4 ∧ 256 < s then 273 else s)
  else if v = 8 then 0 else if v = 1 ∧ s = 259 then 257 else s
def dnC (on : Bool) (v c : Int) : Int :=
  if on = true then c else if v = 16 then less c 1 else if v = 17 then less c 2 else if v = 20 then less c 16 else c
def dnE (on : Bool) (v s : Int) : Int :=
  if on = true then (if v = 8 then 0 else if v = 4 ∧ 256 < s then 0 else 8) else if v = 8 ∨ v = 1 ∨ v = 16 ∨ v = 17 ∨ v = 20 then 0 else 8
/-- the eight bytes as an ask: its kind (0: none), Value and Index -/
structure Qs where
  c : Int
  k : Int
  v : Int
  i : Int
def askE (F : List Int) (q : Qs) : Int := if chk F ≠ 0 then chk F else if q.c ≠ 0 then 8 else if ¬ (8 ≤ q.k ∧ q.k ≤ 10) then 12 else if cn F < q.i then 8 else 0
def ctlE (F : List Int) (q : Qs) : Int := if askE F q ≠ 0 then askE F q else if q.k = 8 then 0 else dnE (q.k == 9) q.v (sta F q.i.toNat)
def ctlV (F : List Int) (q : Qs) : List Int := if askE F q ≠ 0 ∨ q.k = 8 then F else setP F q.i.toNat (dnS (q.k == 9) q.v (sta F q.i.toNat)) (dnC (q.k == 9) q.v (chg F q.i.toNat))
def ctlT (F : List Int) (q : Qs) : List Int := if askE F q ≠ 0 ∨ q.k ≠ 8 then [] else [sta F q.i.toNat % 256, sta F q.i.toNat / 256, chg F q.i.toNat % 256, chg F q.i.toNat / 256]
/-- a port that has a change -/
def bit (F : List Int) (k : Nat) : Int := if chg F k = 0 then 0 else 1
theorem bit_range (F : List Int) (k : Nat) : 0 ≤ bit F k ∧ bit F k ≤ 1 := by unfold bit; split <;> omega
def num (F : List Int) : Nat → Int
  | 0 => 0
  | k + 1 => num F k + bit F k * 2 ^ k
def rem (F : List Int) : Nat → Nat → Int
  | 0, _ => 0
  | n + 1, k => bit F k + 2 * rem F n (k + 1)
theorem num_succ (F : List Int) (k : Nat) : num F (k + 1) = num F k + bit F k * 2 ^ k := rfl
theorem rem_succ (F : List Int) (n k : Nat) : rem F (n + 1) k = bit F k + 2 * rem F n (k + 1) := rfl
theorem num_rem (F : List Int) : ∀ n k, num F k + 2 ^ k * rem F n k = num F (k + n)
  | 0, k => by simp [rem]
  | n + 1, k => by
    have ih := num_rem F n (k + 1)
    rw [show k + (n + 1) = k + 1 + n by omega, ← ih, num_succ, rem_succ, Int.pow_succ]
    generalize (2 : Int) ^ k = p
    generalize rem F n (k + 1) = r
    generalize bit F k = b
    rw [Int.mul_add, Int.mul_comm b p, Int.mul_assoc]
    omega
theorem num_zero (F : List Int) (n : Nat) : num F n = rem F n 0 := by
  have := num_rem F n 0
  simp [num] at this
  exact this.symm
theorem num_range (F : List Int) : ∀ k, 0 ≤ num F k ∧ num F k < 2 ^ k
  | 0 => by simp [num]
  | k + 1 => by
    have ih := num_range F k
    have hb := bit_range F k
    rw [num_succ, Int.pow_succ]
    generalize (2 : Int) ^ k = p at *
    rcases (by omega : bit F k = 0 ∨ bit F k = 1) with h | h <;> rw [h] <;> omega
theorem rem_range (F : List Int) : ∀ n k, 0 ≤ rem F n k ∧ rem F n k < 2 ^ n
  | 0, k => by simp [rem]
  | n + 1, k => by
    have ih := rem_range F n (k + 1)
    have hb := bit_range F k
    rw [rem_succ, Int.pow_succ]
    generalize (2 : Int) ^ n = p at *
    omega
/-- the bytes that Changes tells -/
def cgT (F : List Int) : List Int := if chk F ≠ 0 then [] else if cn F < 8 then [num F 16] else [num F 16 % 256, num F 16 / 256]
end Go.Proofs.Ytdnmjeiljpdmcaa.hub
