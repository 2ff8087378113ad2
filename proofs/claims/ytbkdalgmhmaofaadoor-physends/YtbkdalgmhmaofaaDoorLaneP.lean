/- Stuff run by run, Unstuff from six ones to six ones: plain mathematics. -/
import Derived.Test.YtbkdalgmhmaofaaDoorLaneK
import Derived.Lib.Split
import Derived.Lib.Replace
import Derived.Lib.Join
import Derived.Lib.CountLaws
namespace Go.Proofs.YtbkdalgmhmaofaaDoor.lane
open Go.PlainAid

/-- bytes as numbers -/
def un (l : List UInt8) : List Int := l.map fun b => (b.toNat : Int)
theorem nums_un (s : ByteArray) : nums s = un s.data.toList := rfl
theorem un_append (a b : List UInt8) : un (a ++ b) = un a ++ un b := List.map_append
theorem un_cons (a : UInt8) (b : List UInt8) : un (a :: b) = (a.toNat : Int) :: un b := rfl
def ones (n : Nat) : List UInt8 := List.replicate n 49
theorem un_ones (n : Nat) : un (ones n) = List.replicate n 49 := by unfold un ones; rw [List.map_replicate]; rfl
theorem ones_succ (n : Nat) : ones (n + 1) = 49 :: ones n := rfl
theorem rep_add {α : Type} (m n : Nat) (a : α) : List.replicate (m + n) a = List.replicate m a ++ List.replicate n a := List.replicate_append_replicate.symm
theorem ones_add (m n : Nat) : ones (m + n) = ones m ++ ones n := rep_add m n 49
theorem ones_len (n : Nat) : (ones n).length = n := List.length_replicate

theorem byte_row {b : UInt8} (h : (b.toNat : Int) = 48 ∨ (b.toNat : Int) = 49) : b = 48 ∨ b = 49 := by
  rcases h with h | h
  · exact .inl (UInt8.toNat.inj (by rw [show (48 : UInt8).toNat = 48 from rfl]; omega))
  · exact .inr (UInt8.toNat.inj (by rw [show (49 : UInt8).toNat = 49 from rfl]; omega))
theorem un_row {b : UInt8} {l : List UInt8} (h : rowB (un (b :: l)) = true) : (b = 48 ∨ b = 49) ∧ rowB (un l) = true := by
  rw [un_cons] at h
  obtain ⟨h1, h2⟩ := row_cases h
  exact ⟨byte_row h1, h2⟩
/-- a row is ones alone, or ones, a zero and a row -/
theorem row_runs (l : List UInt8) (h : rowB (un l) = true) : (∃ n, l = ones n) ∨ ∃ n r, l = ones n ++ 48 :: r ∧ rowB (un r) = true := by
  induction l with
  | nil => exact .inl ⟨0, rfl⟩
  | cons b l ih =>
    obtain ⟨hb, hl⟩ := un_row h
    rcases hb with rfl | rfl
    · exact .inr ⟨0, l, rfl, hl⟩
    · rcases ih hl with ⟨n, rfl⟩ | ⟨n, r, rfl, hr⟩
      · exact .inl ⟨n + 1, rfl⟩
      · exact .inr ⟨n + 1, r, rfl, hr⟩

/-! Split at each zero -/
theorem idx_ones (n : Nat) : Lib.index (ones n) [48] = -1 := by
  induction n with
  | zero => rfl
  | succ n ih => rw [ones_succ]; unfold Lib.index; rw [ih]; rfl
theorem idx_zero (n : Nat) (r : List UInt8) : Lib.index (ones n ++ 48 :: r) [48] = n := by
  induction n with
  | zero => show Lib.index (48 :: r) [48] = 0; unfold Lib.index; simp
  | succ n ih =>
    rw [ones_succ, List.cons_append]
    unfold Lib.index
    rw [ih]
    have h1 : ([48] : List UInt8).isPrefixOf (49 :: (ones n ++ 48 :: r)) = false := rfl
    have h2 : ((n : Int) == -1) = false := by rw [beq_eq_false_iff_ne]; omega
    rw [h1, h2]
    simp
theorem split_ones (n : Nat) : Lib.split (ones n) [48] = [ones n] := by
  unfold Lib.split
  rw [Lib.count_miss (idx_ones n)]; rfl
theorem split_zero (n : Nat) (r : List UInt8) : Lib.split (ones n ++ 48 :: r) [48] = ones n :: Lib.split r [48] := by
  have hi := idx_zero n r
  have hd : (ones n ++ 48 :: r).drop (n + 1) = r := by
    rw [List.drop_append, ones_len, show n + 1 - n = 1 by omega, List.drop_of_length_le (by rw [ones_len]; omega)]; rfl
  have ht : (ones n ++ 48 :: r).take n = ones n := by
    rw [List.take_append, ones_len, Nat.sub_self, List.take_of_length_le (by rw [ones_len]; omega)]; simp
  unfold Lib.split
  rw [Lib.count_hit (by simp) hi, Nat.add_comm 1]
  unfold Lib.splitK
  have hm : (Lib.index (ones n ++ 48 :: r) [48] == -1) = false := by rw [hi, beq_eq_false_iff_ne]; omega
  rw [hm, hi]
  simp only [Bool.false_eq_true, if_false, Int.toNat_natCast, Nat.add_zero, List.length_singleton, hd, ht]
  cases Lib.count r [48] <;> rfl
theorem split_ne (l : List UInt8) : Lib.split l [48] ≠ [] := by
  unfold Lib.split
  cases Lib.count l [48] with
  | zero => simp [Lib.splitK]
  | succ k => unfold Lib.splitK; split <;> simp

/-! a zero behind each six of a run -/
theorem idx_six (n : Nat) : Lib.index (ones (6 + n)) (ones 6) = (0 : Nat) := by
  rw [ones_add]
  show Lib.index (49 :: 49 :: 49 :: 49 :: 49 :: 49 :: ones n) (ones 6) = 0
  unfold Lib.index
  have : (ones 6).isPrefixOf (49 :: 49 :: 49 :: 49 :: 49 :: 49 :: ones n) = true := rfl
  rw [this]; rfl
theorem idx_few (n : Nat) (h : n < 6) : Lib.index (ones n) (ones 6) = -1 := by
  have : ∀ k : Fin 6, Lib.index (ones k.val) (ones 6) = -1 := by decide
  exact this ⟨n, h⟩
def seven : List UInt8 := ones 6 ++ [48]
def rep (l : List UInt8) : List UInt8 := Lib.replaceAll l (ones 6) seven
theorem rep_eq (l : List UInt8) : rep l = Lib.replaceK (ones 6) seven (Lib.count l (ones 6)) l := by
  unfold rep Lib.replaceAll Lib.replace
  have h1 : (ones 6 == seven) = false := by decide
  have h2 : Lib.replaceNum l (ones 6) (-1) = Lib.count l (ones 6) := by unfold Lib.replaceNum; rw [if_pos (.inl (by omega))]
  rw [h1, h2]; rfl
theorem rep_few (n : Nat) (h : n < 6) : rep (ones n) = ones n := by
  rw [rep_eq, Lib.count_miss (idx_few n h)]; rfl
theorem rep_six (n : Nat) : rep (ones (6 + n)) = seven ++ rep (ones n) := by
  have hd : (ones (6 + n)).drop (0 + (ones 6).length) = ones n := by
    rw [ones_add, ones_len, Nat.zero_add, List.drop_append, List.drop_of_length_le (by rw [ones_len]; omega), ones_len]; rfl
  rw [rep_eq, Lib.count_hit (by decide) (idx_six n), Nat.add_comm 1, Lib.replaceK_hit _ _ _ _ 0 (idx_six n), hd, ← rep_eq]
  simp
theorem stuff_few (n : Nat) (h : n < 6) : stuffL 0 (List.replicate n 49) = List.replicate n 49 := by
  have : ∀ k : Fin 6, stuffL 0 (List.replicate k.val 49) = List.replicate k.val 49 := by decide
  exact this ⟨n, h⟩
theorem stuff_six (l : List Int) : stuffL 0 (49 :: 49 :: 49 :: 49 :: 49 :: 49 :: l) = 49 :: 49 :: 49 :: 49 :: 49 :: 49 :: 48 :: stuffL 0 l := by
  rw [stuffL_one _ _ (by omega), stuffL_one _ _ (by omega), stuffL_one _ _ (by omega), stuffL_one _ _ (by omega), stuffL_one _ _ (by omega), stuffL_six]
theorem rep_stuff (n : Nat) : un (rep (ones n)) = stuffL 0 (List.replicate n 49) := by
  induction n using Nat.strongRecOn with
  | ind n ih =>
    by_cases h : n < 6
    · rw [rep_few n h, un_ones, stuff_few n h]
    · obtain ⟨m, rfl⟩ : ∃ m, n = 6 + m := ⟨n - 6, by omega⟩
      have hr : List.replicate (6 + m) (49 : Int) = 49 :: 49 :: 49 :: 49 :: 49 :: 49 :: List.replicate m 49 := by rw [rep_add]; rfl
      rw [rep_six, un_append, ih m (by omega), hr, stuff_six]; rfl
theorem stuff_app (o : Nat) (a b : List Int) : stuffL o (a ++ 48 :: b) = stuffL o a ++ 48 :: stuffL 0 b := by
  induction a generalizing o with
  | nil => rw [List.nil_append, stuffL_not _ _ _ (by omega)]; rfl
  | cons x r ih =>
    rw [List.cons_append]
    by_cases h : x = 49
    · subst h
      by_cases h5 : o = 5
      · subst h5; rw [stuffL_six, stuffL_six, ih]; rfl
      · rw [stuffL_one _ _ h5, stuffL_one _ _ h5, ih]; rfl
    · rw [stuffL_not _ _ _ h, stuffL_not _ _ _ h, ih]; rfl
theorem join_more (x : List UInt8) (r : List (List UInt8)) (h : r ≠ []) : Lib.join (x :: r) [48] = x ++ 48 :: Lib.join r [48] := by
  cases r with
  | nil => exact absurd rfl h
  | cons y q => rw [Lib.join_cons, Lib.join_cons]; simp [Lib.joinTail]
/-- run by run it is the stuffed row -/
theorem runs_stuff (m : Nat) : ∀ l : List UInt8, l.length ≤ m → rowB (un l) = true → un (Lib.join ((Lib.split l [48]).map rep) [48]) = stuffL 0 (un l) := by
  induction m with
  | zero =>
    intro l hl _
    have : l = ones 0 := List.eq_nil_of_length_eq_zero (by omega)
    subst this
    rw [split_ones, List.map_singleton, Lib.join_one, rep_stuff, un_ones]
  | succ m ih =>
    intro l hl h
    rcases row_runs l h with ⟨n, rfl⟩ | ⟨n, r, rfl, hr⟩
    · rw [split_ones, List.map_singleton, Lib.join_one, rep_stuff, un_ones]
    · rw [split_zero, List.map_cons, join_more _ _ (by simpa using split_ne r), un_append, un_cons, rep_stuff, ih r (by simp at hl; omega) hr, un_append, un_cons, un_ones]
      exact (stuff_app 0 _ _).symm

/-! from six ones to six ones -/
theorem run_found (o : Nat) (l : List UInt8) (ho : o ≤ 5) (h : okRun 49 6 o (un l) = false) : ∃ j t, (ones o ++ l).drop j = ones 6 ++ t := by
  induction l generalizing o with
  | nil => exact absurd h (by simp [un, okRun])
  | cons b r ih =>
    by_cases e : b = 49
    · subst e
      have h' : okRun 49 6 o (49 :: un r) = false := h
      rw [okRun_same] at h'
      by_cases h5 : o = 5
      · subst h5
        exact ⟨0, r, rfl⟩
      · have h2 : okRun 49 6 (o + 1) (un r) = false := by
          have : decide (o + 1 < 6) = true := by simp; omega
          rw [this] at h'; simpa using h'
        obtain ⟨j, t, hj⟩ := ih (o + 1) (by omega) h2
        refine ⟨j, t, ?_⟩
        rw [ones_add] at hj
        rw [← hj, List.append_assoc]; rfl
    · have hne : ¬ (b.toNat : Int) = 49 := fun q => e (UInt8.toNat.inj (by rw [show (49 : UInt8).toNat = 49 from rfl]; omega))
      have h' : okRun 49 6 o ((b.toNat : Int) :: un r) = false := h
      rw [okRun_other _ _ _ hne] at h'
      obtain ⟨j, t, hj⟩ := ih 0 (by omega) h'
      refine ⟨o + 1 + j, t, ?_⟩
      have : ones 0 ++ r = r := rfl
      rw [this] at hj
      rw [← hj, ← List.drop_drop]
      congr 1
      rw [List.drop_append, ones_len, List.drop_of_length_le (by rw [ones_len]; omega), show o + 1 - o = 1 by omega]; rfl
theorem un_quiet (o : Nat) (x : List Int) (ho : o ≤ 5) (h : okRun 49 6 o x = true) : unstuffL o x = (0, x) := by
  induction x generalizing o with
  | nil => simp [unstuffL, show ¬ o = 6 by omega]
  | cons y r ih =>
    by_cases e : y = 49
    · subst e
      rw [okRun_same, Bool.and_eq_true, decide_eq_true_eq] at h
      rw [unstuffL_one _ _ (by omega), ih (o + 1) (by omega) h.2]
    · rw [okRun_other _ _ _ e] at h
      rw [unstuffL_not _ _ _ (by omega) e, ih 0 (by omega) h]
/-- the ones that stand at the end -/
def tailOnes : Nat → List Int → Nat
  | o, [] => o
  | o, x :: r => tailOnes (if x = 49 then o + 1 else 0) r
theorem un_front (o : Nat) (p r : List Int) (ho : o ≤ 5) (h : okRun 49 6 o p = true) :
    unstuffL o (p ++ r) = ((unstuffL (tailOnes o p) r).1, p ++ (unstuffL (tailOnes o p) r).2) := by
  induction p generalizing o with
  | nil => rfl
  | cons y q ih =>
    rw [List.cons_append]
    by_cases e : y = 49
    · subst e
      rw [okRun_same, Bool.and_eq_true, decide_eq_true_eq] at h
      have et : tailOnes o (49 :: q) = tailOnes (o + 1) q := by simp [tailOnes]
      rw [unstuffL_one _ _ (by omega), ih (o + 1) (by omega) h.2, et]; rfl
    · rw [okRun_other _ _ _ e] at h
      have et : tailOnes o (y :: q) = tailOnes 0 q := by simp [tailOnes, e]
      rw [unstuffL_not _ _ _ (by omega) e, ih 0 (by omega) h, et]; rfl
theorem tail_ones (o : Nat) (p : List UInt8) : ∃ q, ones o ++ p = q ++ ones (tailOnes o (un p)) := by
  induction p generalizing o with
  | nil => exact ⟨[], by simp [un, tailOnes]⟩
  | cons b r ih =>
    by_cases e : b = 49
    · subst e
      obtain ⟨q, hq⟩ := ih (o + 1)
      refine ⟨q, ?_⟩
      have et : tailOnes o (un (49 :: r)) = tailOnes (o + 1) (un r) := by
        show tailOnes o ((49 : Int) :: un r) = _
        simp [tailOnes]
      rw [et, ← hq, ones_add, List.append_assoc]; rfl
    · have hne : ¬ (b.toNat : Int) = 49 := fun q => e (UInt8.toNat.inj (by rw [show (49 : UInt8).toNat = 49 from rfl]; omega))
      obtain ⟨q, hq⟩ := ih 0
      refine ⟨ones o ++ b :: q, ?_⟩
      have et : tailOnes o (un (b :: r)) = tailOnes 0 (un r) := by
        rw [un_cons]; simp [tailOnes, hne]
      have h0 : ones 0 ++ r = r := rfl
      rw [h0] at hq
      rw [et, List.append_assoc, List.cons_append, ← hq]
theorem six_un (q : List Int) : unstuffL 0 (49 :: 49 :: 49 :: 49 :: 49 :: 49 :: q) = ((unstuffL 6 q).1, 49 :: 49 :: 49 :: 49 :: 49 :: 49 :: (unstuffL 6 q).2) := by
  rw [unstuffL_one _ _ (by omega), unstuffL_one _ _ (by omega), unstuffL_one _ _ (by omega), unstuffL_one _ _ (by omega), unstuffL_one _ _ (by omega), unstuffL_one _ _ (by omega)]
theorem occ_of {l t : List UInt8} {j : Nat} (h : l.drop j = ones 6 ++ t) : Lib.occAt l (ones 6) j = true := by
  unfold Lib.occAt
  rw [h]
  exact List.isPrefixOf_iff_prefix.2 ⟨t, rfl⟩
/-- no six ones: all stays -/
theorem cut_miss (l : List UInt8) (h : Lib.index l (ones 6) = -1) : unstuffL 0 (un l) = (0, un l) := by
  apply un_quiet 0 _ (by omega)
  cases hk : okRun 49 6 0 (un l) with
  | true => rfl
  | false =>
    obtain ⟨j, t, hj⟩ := run_found 0 l (by omega) hk
    have h0 : ones 0 ++ l = l := rfl
    rw [h0] at hj
    rcases Lib.index_spec l (ones 6) with ⟨_, hn⟩ | ⟨i, hi, _⟩
    · have hjl : j ≤ l.length := by
        rcases Nat.lt_or_ge l.length j with hlt | hle
        · rw [List.drop_of_length_le (by omega)] at hj
          have := congrArg List.length hj
          simp [ones_len] at this
          omega
        · exact hle
      have := hn j hjl
      rw [occ_of hj] at this
      cases this
    · rw [h] at hi; omega
/-- six ones: all ahead of them stays, and they; the next bit is looked at -/
theorem cut_hit (l : List UInt8) (i : Nat) (h : Lib.index l (ones 6) = i) :
    l = l.take i ++ (ones 6 ++ l.drop (i + 6)) ∧
    unstuffL 0 (un l) = ((unstuffL 6 (un (l.drop (i + 6)))).1, un (l.take i) ++ (un (ones 6) ++ (unstuffL 6 (un (l.drop (i + 6)))).2)) := by
  rcases Lib.index_spec l (ones 6) with ⟨h1, _⟩ | ⟨i', hi', hle, hocc, hno⟩
  · rw [h] at h1; omega
  have e : i' = i := by rw [h] at hi'; omega
  subst e
  unfold Lib.occAt at hocc
  obtain ⟨t, ht⟩ := List.isPrefixOf_iff_prefix.1 hocc
  have hd : l.drop (i' + 6) = t := by
    rw [← List.drop_drop, ← ht, List.drop_append, List.drop_of_length_le (by rw [ones_len]; omega), ones_len]; rfl
  have hl : l = l.take i' ++ (ones 6 ++ l.drop (i' + 6)) := by rw [hd, ht, List.take_append_drop]
  refine ⟨hl, ?_⟩
  have hlen : (l.take i').length = i' := by rw [List.length_take]; omega
  -- nothing of six ones ahead
  have hok : okRun 49 6 0 (un (l.take i')) = true := by
    cases hk : okRun 49 6 0 (un (l.take i')) with
    | true => rfl
    | false =>
      obtain ⟨j, t2, hj⟩ := run_found 0 _ (by omega) hk
      have h0 : ones 0 ++ l.take i' = l.take i' := rfl
      rw [h0] at hj
      have hjl := congrArg List.length hj
      rw [List.length_drop, hlen, List.length_append, ones_len] at hjl
      have hoc : Lib.occAt l (ones 6) j = true := by
        apply occ_of (t := t2 ++ (ones 6 ++ l.drop (i' + 6)))
        conv => lhs; rw [hl]
        rw [List.drop_append_of_le_length (by rw [hlen]; omega), hj, List.append_assoc]
      have := hno j (by omega)
      rw [hoc] at this
      cases this
  have htail : tailOnes 0 (un (l.take i')) = 0 := by
    obtain ⟨q, hq⟩ := tail_ones 0 (l.take i')
    have h0 : ones 0 ++ l.take i' = l.take i' := rfl
    rw [h0] at hq
    rcases Nat.eq_zero_or_pos (tailOnes 0 (un (l.take i'))) with hz | hpos
    · exact hz
    · exfalso
      obtain ⟨k, hk⟩ : ∃ k, tailOnes 0 (un (l.take i')) = k + 1 := ⟨tailOnes 0 (un (l.take i')) - 1, by omega⟩
      rw [hk] at hq
      have hql := congrArg List.length hq
      rw [hlen, List.length_append, ones_len] at hql
      have hoc : Lib.occAt l (ones 6) q.length = true := by
        apply occ_of (t := ones (k + 1) ++ l.drop (i' + 6))
        conv => lhs; rw [hl, hq]
        rw [List.append_assoc, List.drop_append, Nat.sub_self, List.drop_of_length_le (Nat.le_refl _), List.nil_append, List.drop_zero, ← List.append_assoc, ← List.append_assoc, ← ones_add, ← ones_add, Nat.add_comm]
      have := hno q.length (by omega)
      rw [hoc] at this
      cases this
  conv => lhs; rw [hl]
  rw [un_append, un_front 0 _ _ (by omega) hok, htail, un_append]
  have hs : un (ones 6) ++ un (l.drop (i' + 6)) = 49 :: 49 :: 49 :: 49 :: 49 :: 49 :: un (l.drop (i' + 6)) := rfl
  rw [hs, six_un]
  rfl
end Go.Proofs.YtbkdalgmhmaofaaDoor.lane
