/- setup: the plain mathematics: kinds, what their numbers may be, the eight bytes. No program is named here. -/
import Derived.Test.YtdnmjeiljpdmcaaLaneM
namespace Go.Proofs.Ytdnmjeiljpdmcaa.setup
open Go.PlainAid Go.Proofs.Ytdnmjeiljpdmcaa.lane

def inS (l m n : Int) : Bool := decide (l ≤ n) && decide (n ≤ m)
def isK (k : Int) : Bool := inS 1 14 k
/-- the numbers of a kind: two bytes, and from where to where Value, Index and Length may be -/
def row (k : Int) : List Int :=
  [[128, 0, 0, 0, 0, 0, 2, 2], [2, 1, 0, 0, 0, 0, 0, 0], [2, 3, 0, 0, 0, 0, 0, 0], [0, 5, 0, 127, 0, 0, 0, 0], [128, 6, 0, 65535, 0, 65535, 0, 65535], [0, 9, 0, 255, 0, 0, 0, 0], [128, 8, 0, 0, 0, 0, 1, 1],
   [163, 0, 0, 0, 1, 15, 4, 4], [35, 3, 0, 31, 1, 15, 0, 0], [35, 1, 0, 31, 1, 15, 0, 0], [33, 255, 0, 0, 0, 255, 0, 0], [161, 254, 0, 0, 0, 255, 1, 1], [33, 10, 0, 65535, 0, 255, 0, 0], [33, 9, 512, 512, 0, 255, 1, 1]].getD (k - 1).toNat []
def col (k : Int) (j : Nat) : Int := (row k).getD j 0
def te (k : Int) : Bool := k == 2 || k == 3
def isE (i : Int) : Bool := inS 0 15 i || inS 128 143 i
def fitB (k v i l : Int) : Bool := (if te k then isE i else inS (col k 4) (col k 5) i) && inS (col k 2) (col k 3) v && inS (col k 6) (col k 7) l
def good (k v i l : Int) : Bool := isK k && fitB k v i l
def wrd (n : Int) : List Int := [n % 256, n / 256]
def txt (k v i l : Int) : List Int := [col k 0, col k 1] ++ wrd v ++ wrd i ++ wrd l
theorem inS_iff {l m n : Int} : inS l m n = true ↔ l ≤ n ∧ n ≤ m := by simp [inS]
theorem isK_cases {k : Int} (h : isK k = true) : k = 1 ∨ k = 2 ∨ k = 3 ∨ k = 4 ∨ k = 5 ∨ k = 6 ∨ k = 7 ∨ k = 8 ∨ k = 9 ∨ k = 10 ∨ k = 11 ∨ k = 12 ∨ k = 13 ∨ k = 14 := by
  have := inS_iff.1 h; omega
theorem col_head : ∀ k : Fin 15, ∀ j : Fin 2, 0 ≤ col (k.val : Int) j.val ∧ col (k.val : Int) j.val ≤ 255 := by decide
theorem heads_apart : ∀ k j : Fin 15, 1 ≤ k.val → 1 ≤ j.val → col (k.val : Int) 0 = col (j.val : Int) 0 → col (k.val : Int) 1 = col (j.val : Int) 1 → k = j := by decide
theorem good_words {k v i l : Int} (h : good k v i l = true) : (1 ≤ k ∧ k ≤ 14) ∧ (0 ≤ v ∧ v ≤ 65535) ∧ (0 ≤ i ∧ i ≤ 65535) ∧ (0 ≤ l ∧ l ≤ 65535) := by
  unfold good at h
  rw [Bool.and_eq_true] at h
  obtain ⟨hk, hf⟩ := h
  refine ⟨inS_iff.1 hk, ?_⟩
  unfold fitB at hf
  rw [Bool.and_eq_true, Bool.and_eq_true, inS_iff, inS_iff] at hf
  obtain ⟨⟨h1, h2⟩, h3⟩ := hf
  rcases isK_cases hk with rfl | rfl | rfl | rfl | rfl | rfl | rfl | rfl | rfl | rfl | rfl | rfl | rfl | rfl
  all_goals
    simp [te, isE, inS, col, row] at h1 h2 h3
    omega
theorem txt_byt {k v i l : Int} (h : good k v i l = true) : Byt (txt k v i l) := by
  obtain ⟨⟨h1, h2⟩, _, _, _⟩ := good_words h
  have c0 := col_head ⟨k.toNat, by omega⟩ ⟨0, by omega⟩
  have c1 := col_head ⟨k.toNat, by omega⟩ ⟨1, by omega⟩
  simp only [Int.toNat_of_nonneg (show 0 ≤ k by omega)] at c0 c1
  intro x hx
  simp [txt, wrd] at hx
  omega
theorem txt_len (k v i l : Int) : (txt k v i l).length = 8 := rfl
theorem txt_inj {k v i l k' v' i' l' : Int} (h : good k v i l = true) (h' : good k' v' i' l' = true) (e : txt k v i l = txt k' v' i' l') : k = k' ∧ v = v' ∧ i = i' ∧ l = l' := by
  obtain ⟨⟨a1, a2⟩, a3, a4, a5⟩ := good_words h
  obtain ⟨⟨b1, b2⟩, b3, b4, b5⟩ := good_words h'
  simp [txt, wrd] at e
  obtain ⟨e1, e2, e3, e4, e5, e6, e7, e8⟩ := e
  have hd := heads_apart ⟨k.toNat, by omega⟩ ⟨k'.toNat, by omega⟩ (by simp; omega) (by simp; omega)
  simp only [Int.toNat_of_nonneg (show 0 ≤ k by omega), Int.toNat_of_nonneg (show 0 ≤ k' by omega)] at hd
  have := hd e1 e2
  rw [Fin.mk.injEq] at this
  omega
/-- the word that lies in a text at k -/
def wat (s : List Int) (k : Nat) : Int := s.getD k 0 + 256 * s.getD (k + 1) 0
/-- is s the text of an ask of kind k? -/
def hit (s : List Int) (k : Int) : Bool := good k (wat s 2) (wat s 4) (wat s 6) && decide (txt k (wat s 2) (wat s 4) (wat s 6) = s)
/-- the least kind, from k on (n are left), of which s is the text -/
def find (s : List Int) : Nat → Int → Int
  | 0, _ => 0
  | n + 1, k => if hit s k then k else find s n (k + 1)
theorem find_zero {s : List Int} : ∀ (n : Nat) (k : Int), 1 ≤ k → find s n k = 0 → ∀ j, k ≤ j → j < k + n → hit s j = false := by
  intro n
  induction n with
  | zero => intro k _ _ j _ _; omega
  | succ n ih =>
    intro k hk h j h1 h2
    unfold find at h
    by_cases c : hit s k = true
    · rw [if_pos c] at h; omega
    · rw [if_neg c] at h
      by_cases e : j = k
      · subst e; simpa using c
      · exact ih (k + 1) (by omega) h j (by omega) (by omega)
theorem find_hit {s : List Int} : ∀ (n : Nat) (k : Int), 1 ≤ k → find s n k ≠ 0 → hit s (find s n k) = true ∧ k ≤ find s n k ∧ find s n k < k + n := by
  intro n
  induction n with
  | zero => intro k _ h; simp [find] at h
  | succ n ih =>
    intro k hk h
    unfold find at h ⊢
    by_cases c : hit s k = true
    · rw [if_pos c]; exact ⟨c, by omega, by omega⟩
    · rw [if_neg c] at h ⊢
      have := ih (k + 1) (by omega) h
      exact ⟨this.1, by omega, by omega⟩
theorem wat_txt {k v i l : Int} (h : good k v i l = true) : wat (txt k v i l) 2 = v ∧ wat (txt k v i l) 4 = i ∧ wat (txt k v i l) 6 = l := by
  obtain ⟨_, a3, a4, a5⟩ := good_words h
  simp [wat, txt, wrd]
  omega
theorem hit_txt {k v i l : Int} (h : good k v i l = true) : hit (txt k v i l) k = true := by
  obtain ⟨e1, e2, e3⟩ := wat_txt h
  unfold hit
  rw [e1, e2, e3, h]
  simp
theorem hit_one {s : List Int} {k k' : Int} (h : hit s k = true) (h' : hit s k' = true) : k = k' := by
  unfold hit at h h'
  rw [Bool.and_eq_true, decide_eq_true_iff] at h h'
  exact (txt_inj h.1 h'.1 (h.2.trans h'.2.symm)).1
theorem find_txt {k v i l : Int} (h : good k v i l = true) : find (txt k v i l) 14 1 = k := by
  have hh := hit_txt h
  obtain ⟨⟨a1, a2⟩, _⟩ := good_words h
  by_cases c : find (txt k v i l) 14 1 = 0
  · have := find_zero 14 1 (by omega) c k a1 (by omega)
    rw [hh] at this; cases this
  · exact hit_one (find_hit 14 1 (by omega) c).1 hh
end Go.Proofs.Ytdnmjeiljpdmcaa.setup
