/- bulk: the plain mathematics: wraps, statuses, thirteen cases. No program is named here. -/
import Derived.Test.YtecknicmonhcaabDoorStrM
import Derived.Test.YtecknicmonhcaabDoorLaneM
namespace Go.Proofs.YtecknicmonhcaabDoor.bulk
open Go.RowKit Go.PlainAid Go.Proofs.YtecknicmonhcaabDoor.lane Go.Proofs.YtecknicmonhcaabDoor.strike
set_option linter.unusedVariables false

/-- a number, the lowest byte first -/
def le4 (n : Int) : List Int := [n % 256, n / 256 % 256, n / 65536 % 256, n / 16777216 % 256]
def lgB (n : Int) : Bool := decide (0 ≤ n) && decide (n ≤ 4294967295)
theorem lg_iff (n : Int) : lgB n = true ↔ 0 ≤ n ∧ n ≤ 4294967295 := by unfold lgB; rw [Bool.and_eq_true, decide_eq_true_eq, decide_eq_true_eq]
def lgL (L : List Int) (k : Nat) : Int := L.getD k 0 + 256 * L.getD (k + 1) 0 + 65536 * L.getD (k + 2) 0 + 16777216 * L.getD (k + 3) 0
theorem le4_len (n : Int) : (le4 n).length = 4 := rfl
/-- a command to a disk -/
structure Wp where
  tag : Int
  len : Int
  inn : Bool
  unit : Int
  cmd : ByteArray
def wk (x : Wp) : Bool := lgB x.tag && lgB x.len && (decide (0 ≤ x.unit) && decide (x.unit ≤ 15)) && (decide (1 ≤ x.cmd.size) && decide (x.cmd.size ≤ 16))
theorem wk_iff (x : Wp) : wk x = true ↔ (0 ≤ x.tag ∧ x.tag ≤ 4294967295) ∧ (0 ≤ x.len ∧ x.len ≤ 4294967295) ∧ (0 ≤ x.unit ∧ x.unit ≤ 15) ∧ (1 ≤ x.cmd.size ∧ x.cmd.size ≤ 16) := by
  unfold wk
  rw [Bool.and_eq_true, Bool.and_eq_true, Bool.and_eq_true, lg_iff, lg_iff]
  simp [and_assoc]
def inB (b : Bool) : Int := if b then 128 else 0
def wrH (x : Wp) : List Int := [85, 83, 66, 67] ++ le4 x.tag ++ le4 x.len ++ [inB x.inn, x.unit, (x.cmd.size : Int)]
def wrL (x : Wp) : List Int := wrH x ++ nums x.cmd ++ List.replicate (16 - x.cmd.size) 0
def wrT (x : Wp) : ByteArray := if wk x = true then strOfNums (wrL x) else ⟨#[]⟩
def wrC (x : Wp) : Int := if wk x = true then 0 else 1
theorem wr_len {x : Wp} (h : wk x = true) : (wrL x).length = 31 := by
  have h := (wk_iff x).1 h
  simp [wrL, wrH, le4, nums_length]
  omega
theorem wr_byt {x : Wp} (h : wk x = true) : Byt (wrL x) := by
  have h := (wk_iff x).1 h
  intro y hy
  unfold wrL at hy
  rw [List.mem_append, List.mem_append] at hy
  rcases hy with (hy | hy) | hy
  · have hi : inB x.inn = 128 ∨ inB x.inn = 0 := by unfold inB; cases x.inn <;> simp
    simp [wrH, le4] at hy
    omega
  · exact nums_byt _ y hy
  · have := List.eq_of_mem_replicate hy
    omega
theorem wr_nums {x : Wp} (h : wk x = true) : nums (wrT x) = wrL x := by unfold wrT; rw [if_pos h, nums_str _ (wr_byt h)]
theorem wr_size {x : Wp} (h : wk x = true) : (wrT x).size = 31 := by rw [← nums_length, wr_nums h, wr_len h]
/-- what the bytes of s would be -/
def rdV (s : ByteArray) : Wp := ⟨lgL (nums s) 4, lgL (nums s) 8, decide ((nums s).getD 12 0 = 128), (nums s).getD 13 0, s.extract 15 (15 + min ((nums s).getD 14 0).toNat 16)⟩
def wp0 : Wp := ⟨0, 0, false, 0, ⟨#[]⟩⟩
def rdC (s : ByteArray) : Int := if s.size < 31 then 3 else if wrT (rdV s) = s then 0 else 4
def rdW (s : ByteArray) : Wp := if rdC s = 0 then rdV s else wp0
theorem nums_inj {a b : ByteArray} (h : nums a = nums b) : a = b := by rw [← str_nums a, h, str_nums]
theorem nums_cut (s : ByteArray) (i j : Nat) : nums (s.extract i j) = ((nums s).drop i).take (j - i) := by
  unfold nums; rw [ex_list, List.map_take, List.map_drop]
theorem byt_getD {L : List Int} (h : Byt L) (k : Nat) : 0 ≤ L.getD k 0 ∧ L.getD k 0 ≤ 255 := by
  by_cases hk : k < L.length
  · have := h (L[k]) (List.getElem_mem hk)
    simpa [List.getD, List.getElem?_eq_getElem hk] using this
  · rw [List.getD, List.getElem?_eq_none (by omega)]; exact ⟨by decide, by decide⟩
theorem lg_range {L : List Int} (h : Byt L) (k : Nat) : 0 ≤ lgL L k ∧ lgL L k ≤ 4294967295 := by
  have h0 := byt_getD h k
  have h1 := byt_getD h (k + 1)
  have h2 := byt_getD h (k + 2)
  have h3 := byt_getD h (k + 3)
  unfold lgL; omega
theorem le4_lg {L : List Int} (h : Byt L) (k : Nat) : le4 (lgL L k) = [L.getD k 0, L.getD (k + 1) 0, L.getD (k + 2) 0, L.getD (k + 3) 0] := by
  have h0 := byt_getD h k
  have h1 := byt_getD h (k + 1)
  have h2 := byt_getD h (k + 2)
  have h3 := byt_getD h (k + 3)
  unfold lgL le4
  generalize L.getD k 0 = a at *
  generalize L.getD (k + 1) 0 = b at *
  generalize L.getD (k + 2) 0 = c at *
  generalize L.getD (k + 3) 0 = d at *
  simp only [List.cons.injEq, and_true]
  omega
theorem lg_le4 {n : Int} (h0 : 0 ≤ n) (h1 : n ≤ 4294967295) (A B : List Int) : lgL (A ++ (le4 n ++ B)) A.length = n := by
  have e : ∀ j, (A ++ (le4 n ++ B)).getD (A.length + j) 0 = (le4 n ++ B).getD j 0 := fun j => by
    simp only [List.getD]
    rw [List.getElem?_append_right (by omega)]
    congr 2; omega
  unfold lgL
  have e0 := e 0
  rw [Nat.add_zero] at e0
  rw [e0, e 1, e 2, e 3]
  simp [le4]
  omega
/-- a wrap that was written is read as it was -/
theorem rd_wr {x : Wp} (h : wk x = true) : rdV (wrT x) = x := by
  have h' := (wk_iff x).1 h
  obtain ⟨tag, len, inn, unit, cmd⟩ := x
  have hn := wr_nums h
  unfold rdV
  rw [hn]
  have e4 : lgL (wrL ⟨tag, len, inn, unit, cmd⟩) 4 = tag := by
    have := lg_le4 h'.1.1 h'.1.2 [85, 83, 66, 67] (le4 len ++ [inB inn, unit, (cmd.size : Int)] ++ nums cmd ++ List.replicate (16 - cmd.size) 0)
    simpa [wrL, wrH] using this
  have e8 : lgL (wrL ⟨tag, len, inn, unit, cmd⟩) 8 = len := by
    have := lg_le4 h'.2.1.1 h'.2.1.2 ([85, 83, 66, 67] ++ le4 tag) ([inB inn, unit, (cmd.size : Int)] ++ nums cmd ++ List.replicate (16 - cmd.size) 0)
    simpa [wrL, wrH, le4] using this
  have e12 : (wrL ⟨tag, len, inn, unit, cmd⟩).getD 12 0 = inB inn := by simp [wrL, wrH, le4]
  have e13 : (wrL ⟨tag, len, inn, unit, cmd⟩).getD 13 0 = unit := by simp [wrL, wrH, le4]
  have e14 : (wrL ⟨tag, len, inn, unit, cmd⟩).getD 14 0 = (cmd.size : Int) := by simp [wrL, wrH, le4]
  rw [e4, e8, e12, e13, e14]
  have hc : (wrT ⟨tag, len, inn, unit, cmd⟩).extract 15 (15 + min ((cmd.size : Int)).toNat 16) = cmd := by
    apply nums_inj
    rw [nums_cut, hn, Int.toNat_natCast, Nat.min_eq_left h'.2.2.2.2, show 15 + cmd.size - 15 = cmd.size by omega]
    unfold wrL
    rw [List.append_assoc, List.drop_append, List.drop_eq_nil_of_le (by simp [wrH, le4]), show 15 - (wrH ⟨tag, len, inn, unit, cmd⟩).length = 0 by simp [wrH, le4], List.nil_append, List.drop_zero]
    rw [List.take_append_of_le_length (by rw [nums_length]; exact Nat.le_refl _), List.take_of_length_le (by rw [nums_length]; exact Nat.le_refl _)]
  rw [hc]
  have hi : decide (inB inn = 128) = inn := by cases inn <;> rfl
  rw [hi]
theorem rd_ok {x : Wp} (h : wk x = true) : rdC (wrT x) = 0 ∧ rdW (wrT x) = x := by
  have h1 : rdC (wrT x) = 0 := by
    unfold rdC
    rw [if_neg (by rw [wr_size h]; decide), rd_wr h, if_pos rfl]
  exact ⟨h1, by unfold rdW; rw [if_pos h1, rd_wr h]⟩
theorem rd_is {s : ByteArray} (h : rdC s = 0) : rdW s = rdV s ∧ wk (rdV s) = true ∧ wrT (rdV s) = s ∧ s.size = 31 := by
  have h1 : rdW s = rdV s := if_pos h
  unfold rdC at h
  split at h
  · cases h
  · rename_i hs
    split at h
    · rename_i e
      have hk : wk (rdV s) = true := by
        by_cases hk : wk (rdV s) = true
        · exact hk
        · exfalso
          have : (wrT (rdV s)).size = 0 := by unfold wrT; rw [if_neg hk]; rfl
          rw [e] at this; omega
      refine ⟨h1, hk, e, ?_⟩
      rw [← e]; exact wr_size hk
    · cases h
theorem rd_code (s : ByteArray) : rdC s = 0 ∨ rdC s = 3 ∨ rdC s = 4 := by
  unfold rdC
  split
  · exact .inr (.inl rfl)
  · split
    · exact .inl rfl
    · exact .inr (.inr rfl)
/-- the document's reading: by what stands where -/
def rfB (s : ByteArray) : Bool := decide (s.size = 31) && (decide ((nums s).take 4 = [85, 83, 66, 67]) && (decide ((nums s).getD 12 0 = 0 ∨ (nums s).getD 12 0 = 128) && (decide ((nums s).getD 13 0 ≤ 15) && (decide (1 ≤ (nums s).getD 14 0 ∧ (nums s).getD 14 0 ≤ 16) && decide ((nums s).drop (15 + ((nums s).getD 14 0).toNat) = List.replicate (16 - ((nums s).getD 14 0).toNat) 0)))))
theorem rf_iff (s : ByteArray) : rfB s = true ↔ s.size = 31 ∧ (nums s).take 4 = [85, 83, 66, 67] ∧ ((nums s).getD 12 0 = 0 ∨ (nums s).getD 12 0 = 128) ∧ (nums s).getD 13 0 ≤ 15 ∧ (1 ≤ (nums s).getD 14 0 ∧ (nums s).getD 14 0 ≤ 16) ∧ (nums s).drop (15 + ((nums s).getD 14 0).toNat) = List.replicate (16 - ((nums s).getD 14 0).toNat) 0 := by
  unfold rfB
  rw [Bool.and_eq_true, Bool.and_eq_true, Bool.and_eq_true, Bool.and_eq_true, Bool.and_eq_true, decide_eq_true_eq, decide_eq_true_eq, decide_eq_true_eq, decide_eq_true_eq, decide_eq_true_eq, decide_eq_true_eq]
theorem list_cut {L : List Int} {n : Nat} (h : L.length = n) (k : Nat) (hk : k < n) : L.drop k = L.getD k 0 :: L.drop (k + 1) := by
  rw [List.drop_eq_getElem_cons (by omega)]
  simp [List.getD, List.getElem?_eq_getElem (show k < L.length by omega)]
theorem rd_rf {s : ByteArray} (hs : 31 ≤ s.size) : rdC s = 0 ↔ rfB s = true := by
  rw [rf_iff]
  constructor
  · intro h
    obtain ⟨_, hk, e, h31⟩ := rd_is h
    have hL : nums s = wrL (rdV s) := by rw [← wr_nums hk, e]
    have hk' := (wk_iff _).1 hk
    refine ⟨h31, ?_⟩
    rw [hL]
    clear hL e
    generalize rdV s = y at *
    obtain ⟨tag, len, inn, unit, cmd⟩ := y
    have e12 : (wrL ⟨tag, len, inn, unit, cmd⟩).getD 12 0 = inB inn := by simp [wrL, wrH, le4]
    have e13 : (wrL ⟨tag, len, inn, unit, cmd⟩).getD 13 0 = unit := by simp [wrL, wrH, le4]
    have e14 : (wrL ⟨tag, len, inn, unit, cmd⟩).getD 14 0 = (cmd.size : Int) := by simp [wrL, wrH, le4]
    rw [e12, e13, e14]
    simp only at hk'
    refine ⟨by simp [wrL, wrH, le4], by cases inn <;> simp [inB], hk'.2.2.1.2, by omega, ?_⟩
    rw [Int.toNat_natCast]
    unfold wrL
    rw [List.drop_append, List.drop_eq_nil_of_le (by simp [wrH, le4, nums_length]; omega), List.nil_append]
    rw [show 15 + cmd.size - (wrH ⟨tag, len, inn, unit, cmd⟩ ++ nums cmd).length = 0 by simp [wrH, le4, nums_length]; omega, List.drop_zero]
  · rintro ⟨h31, h4, h12, h13, h14, hz⟩
    have hb := nums_byt s
    have hl : (nums s).length = 31 := by rw [nums_length, h31]
    have hc : (rdV s).cmd.size = ((nums s).getD 14 0).toNat := by
      show (s.extract _ _).size = _
      rw [ByteArray.size_extract]; omega
    have hk : wk (rdV s) = true := by
      rw [wk_iff, hc]
      exact ⟨lg_range hb 4, lg_range hb 8, ⟨(byt_getD hb 13).1, h13⟩, by omega⟩
    have e : wrT (rdV s) = s := by
      apply nums_inj
      rw [wr_nums hk]
      unfold wrL wrH
      have hin : inB (rdV s).inn = (nums s).getD 12 0 := by
        show inB (decide _) = _
        rcases h12 with q | q <;> (rw [q]; rfl)
      have hcm : nums (rdV s).cmd = ((nums s).drop 15).take ((nums s).getD 14 0).toNat := by
        show nums (s.extract _ _) = _
        rw [nums_cut]; congr 1; omega
      rw [hin, hcm, hc, ← hz]
      show [85, 83, 66, 67] ++ le4 (lgL (nums s) 4) ++ le4 (lgL (nums s) 8) ++ [(nums s).getD 12 0, (nums s).getD 13 0, ((((nums s).getD 14 0).toNat : Nat) : Int)] ++ _ ++ _ = _
      rw [le4_lg hb, le4_lg hb, Int.toNat_of_nonneg (by omega), ← h4]
      have e15 : (nums s).drop 15 = ((nums s).drop 15).take ((nums s).getD 14 0).toNat ++ (nums s).drop (15 + ((nums s).getD 14 0).toNat) := by
        rw [← List.drop_drop, List.take_append_drop]
      have e0 : nums s = (nums s).take 4 ++ (nums s).drop 4 := (List.take_append_drop 4 _).symm
      have e4 := list_cut hl 4 (by omega)
      have e5 := list_cut hl 5 (by omega)
      have e6 := list_cut hl 6 (by omega)
      have e7 := list_cut hl 7 (by omega)
      have e8 := list_cut hl 8 (by omega)
      have e9 := list_cut hl 9 (by omega)
      have e10 := list_cut hl 10 (by omega)
      have e11 := list_cut hl 11 (by omega)
      have e12 := list_cut hl 12 (by omega)
      have e13 := list_cut hl 13 (by omega)
      have e14 := list_cut hl 14 (by omega)
      simp only [Nat.reduceAdd] at *
      generalize ((nums s).drop 15).take ((nums s).getD 14 0).toNat = C at *
      generalize (nums s).drop (15 + ((nums s).getD 14 0).toNat) = Z at *
      conv => rhs; rw [e0, e4, e5, e6, e7, e8, e9, e10, e11, e12, e13, e14, e15]
      simp
    unfold rdC
    rw [if_neg (by omega), if_pos e]
/-- the status of a command -/
structure Sp where
  tag : Int
  res : Int
  code : Int
def sk (x : Sp) : Bool := lgB x.tag && lgB x.res && (decide (0 ≤ x.code) && decide (x.code ≤ 2))
theorem sk_iff (x : Sp) : sk x = true ↔ (0 ≤ x.tag ∧ x.tag ≤ 4294967295) ∧ (0 ≤ x.res ∧ x.res ≤ 4294967295) ∧ (0 ≤ x.code ∧ x.code ≤ 2) := by
  unfold sk
  rw [Bool.and_eq_true, Bool.and_eq_true, lg_iff, lg_iff]
  simp [and_assoc]
def stL (x : Sp) : List Int := [85, 83, 66, 83] ++ le4 x.tag ++ le4 x.res ++ [x.code]
def stT (x : Sp) : ByteArray := if sk x = true then strOfNums (stL x) else ⟨#[]⟩
def stC (x : Sp) : Int := if sk x = true then 0 else 1
theorem st_byt {x : Sp} (h : sk x = true) : Byt (stL x) := by
  have h := (sk_iff x).1 h
  intro y hy
  simp [stL, le4] at hy
  omega
theorem st_nums {x : Sp} (h : sk x = true) : nums (stT x) = stL x := by unfold stT; rw [if_pos h, nums_str _ (st_byt h)]
theorem st_size {x : Sp} (h : sk x = true) : (stT x).size = 13 := by rw [← nums_length, st_nums h]; rfl
def rsV (s : ByteArray) : Sp := ⟨lgL (nums s) 4, lgL (nums s) 8, (nums s).getD 12 0⟩
def sp0 : Sp := ⟨0, 0, 0⟩
def rsC (s : ByteArray) : Int := if s.size < 13 then 3 else if stT (rsV s) = s then 0 else 4
def rsW (s : ByteArray) : Sp := if rsC s = 0 then rsV s else sp0
theorem rs_st {x : Sp} (h : sk x = true) : rsV (stT x) = x := by
  have h' := (sk_iff x).1 h
  obtain ⟨tag, res, code⟩ := x
  unfold rsV
  rw [st_nums h]
  have e4 : lgL (stL ⟨tag, res, code⟩) 4 = tag := by
    have := lg_le4 h'.1.1 h'.1.2 [85, 83, 66, 83] (le4 res ++ [code])
    simpa [stL] using this
  have e8 : lgL (stL ⟨tag, res, code⟩) 8 = res := by
    have := lg_le4 h'.2.1.1 h'.2.1.2 ([85, 83, 66, 83] ++ le4 tag) [code]
    simpa [stL, le4] using this
  rw [e4, e8]
  rfl
theorem rs_ok {x : Sp} (h : sk x = true) : rsC (stT x) = 0 ∧ rsW (stT x) = x := by
  have h1 : rsC (stT x) = 0 := by
    unfold rsC
    rw [if_neg (by rw [st_size h]; decide), rs_st h, if_pos rfl]
  exact ⟨h1, by unfold rsW; rw [if_pos h1, rs_st h]⟩
theorem rs_is {s : ByteArray} (h : rsC s = 0) : rsW s = rsV s ∧ sk (rsV s) = true ∧ stT (rsV s) = s ∧ s.size = 13 := by
  have h1 : rsW s = rsV s := if_pos h
  unfold rsC at h
  split at h
  · cases h
  · rename_i hs
    split at h
    · rename_i e
      have hk : sk (rsV s) = true := by
        by_cases hk : sk (rsV s) = true
        · exact hk
        · exfalso
          have : (stT (rsV s)).size = 0 := by unfold stT; rw [if_neg hk]; rfl
          rw [e] at this; omega
      refine ⟨h1, hk, e, ?_⟩
      rw [← e]; exact st_size hk
    · cases h
theorem rs_code (s : ByteArray) : rsC s = 0 ∨ rsC s = 3 ∨ rsC s = 4 := by
  unfold rsC
  split
  · exact .inr (.inl rfl)
  · split
    · exact .inl rfl
    · exact .inr (.inr rfl)
def rtB (s : ByteArray) : Bool := decide (s.size = 13) && (decide ((nums s).take 4 = [85, 83, 66, 83]) && decide ((nums s).getD 12 0 ≤ 2))
theorem rt_iff (s : ByteArray) : rtB s = true ↔ s.size = 13 ∧ (nums s).take 4 = [85, 83, 66, 83] ∧ (nums s).getD 12 0 ≤ 2 := by
  unfold rtB
  rw [Bool.and_eq_true, Bool.and_eq_true, decide_eq_true_eq, decide_eq_true_eq, decide_eq_true_eq]
theorem rs_rt {s : ByteArray} (hs : 13 ≤ s.size) : rsC s = 0 ↔ rtB s = true := by
  rw [rt_iff]
  constructor
  · intro h
    obtain ⟨_, hk, e, h13⟩ := rs_is h
    have hL : nums s = stL (rsV s) := by rw [← st_nums hk, e]
    have hk' := (sk_iff _).1 hk
    refine ⟨h13, ?_⟩
    rw [hL]
    clear hL e
    generalize rsV s = y at *
    obtain ⟨tag, res, code⟩ := y
    exact ⟨rfl, hk'.2.2.2⟩
  · rintro ⟨h13, h4, h12⟩
    have hb := nums_byt s
    have hl : (nums s).length = 13 := by rw [nums_length, h13]
    have hk : sk (rsV s) = true := by
      rw [sk_iff]
      exact ⟨lg_range hb 4, lg_range hb 8, (byt_getD hb 12).1, h12⟩
    have e : stT (rsV s) = s := by
      apply nums_inj
      rw [st_nums hk]
      unfold stL
      show [85, 83, 66, 83] ++ le4 (lgL (nums s) 4) ++ le4 (lgL (nums s) 8) ++ [(nums s).getD 12 0] = _
      rw [le4_lg hb, le4_lg hb, ← h4]
      have e0 : nums s = (nums s).take 4 ++ (nums s).drop 4 := (List.take_append_drop 4 _).symm
      have e4 := list_cut hl 4 (by omega)
      have e5 := list_cut hl 5 (by omega)
      have e6 := list_cut hl 6 (by omega)
      have e7 := list_cut hl 7 (by omega)
      have e8 := list_cut hl 8 (by omega)
      have e9 := list_cut hl 9 (by omega)
      have e10 := list_cut hl 10 (by omega)
      have e11 := list_cut hl 11 (by omega)
      have e12 := list_cut hl 12 (by omega)
      have e13 : (nums s).drop 13 = [] := List.drop_eq_nil_of_le (by omega)
      simp only [Nat.reduceAdd] at *
      conv => rhs; rw [e0, e4, e5, e6, e7, e8, e9, e10, e11, e12, e13]
      simp
    unfold rsC
    rw [if_neg (by omega), if_pos e]
/-- a move of bytes; what is done where two don't agree -/
structure Mv where
  dir : Int
  len : Int
def mvB (m : Mv) : Bool := (decide (m.dir = 0) && decide (m.len = 0)) || ((decide (m.dir = 1) || decide (m.dir = 2)) && (decide (1 ≤ m.len) && decide (m.len ≤ 4294967295)))
theorem mv_iff (m : Mv) : mvB m = true ↔ (m.dir = 0 ∧ m.len = 0) ∨ (m.dir = 1 ∨ m.dir = 2) ∧ 1 ≤ m.len ∧ m.len ≤ 4294967295 := by
  unfold mvB
  simp [Bool.or_eq_true, Bool.and_eq_true]
structure Vd where
  cas : Int
  moved : Int
  res : Int
  code : Int
def vd0 : Vd := ⟨0, 0, 0, 0⟩
def cmpI (a b : Int) : Int := if a < b then -1 else if b < a then 1 else 0
/-- the case of two moves -/
def csV (h d : Mv) : Int :=
  if h.dir = 0 then 1 + d.dir
  else if h.dir = 1 then (if d.dir = 0 then 4 else if d.dir = 1 then 6 + cmpI d.len h.len else 8)
  else (if d.dir = 0 then 9 else if d.dir = 1 then 10 else 12 + cmpI d.len h.len)
def mkd (c : Int) : Bool := c == 2 || (c == 3 || (c == 7 || (c == 8 || (c == 10 || c == 13))))
def jdC (h d : Mv) : Int := if mvB h = true ∧ mvB d = true then 0 else 1
def jdV (h d : Mv) : Vd := if mvB h = true ∧ mvB d = true then (if mkd (csV h d) = true then ⟨csV h d, 0, h.len, 2⟩ else ⟨csV h d, min h.len d.len, h.len - min h.len d.len, 0⟩) else vd0
theorem jd_no {h d : Mv} (e : ¬ (mvB h = true ∧ mvB d = true)) : jdC h d = 1 ∧ jdV h d = vd0 := ⟨if_neg e, if_neg e⟩
theorem jd_ok {h d : Mv} (h1 : mvB h = true) (h2 : mvB d = true) : jdC h d = 0 ∧ jdV h d = if mkd (csV h d) = true then ⟨csV h d, 0, h.len, 2⟩ else ⟨csV h d, min h.len d.len, h.len - min h.len d.len, 0⟩ := ⟨if_pos ⟨h1, h2⟩, if_pos ⟨h1, h2⟩⟩
theorem cmp_val (a b : Int) : (cmpI a b = -1 ∧ a < b) ∨ (cmpI a b = 0 ∧ a = b) ∨ (cmpI a b = 1 ∧ b < a) := by
  unfold cmpI
  split
  · rename_i h; exact .inl ⟨rfl, h⟩
  · split
    · rename_i h; exact .inr (.inr ⟨rfl, h⟩)
    · rename_i h1 h2; exact .inr (.inl ⟨rfl, by omega⟩)
/-- they agree just where the device means nothing, or the same way and no more -/
theorem mkd_iff {h d : Mv} (h1 : mvB h = true) (h2 : mvB d = true) : mkd (csV h d) = false ↔ (d.dir = 0 ∨ d.dir = h.dir ∧ d.len ≤ h.len) := by
  rw [mv_iff] at h1 h2
  have hc := cmp_val d.len h.len
  unfold csV
  rcases h1 with ⟨a, b⟩ | ⟨a | a, b⟩ <;> rcases h2 with ⟨p, q⟩ | ⟨p | p, q⟩ <;> (simp only [a, p]; rcases hc with ⟨r, t⟩ | ⟨r, t⟩ | ⟨r, t⟩ <;> simp [r, mkd] <;> omega)
end Go.Proofs.YtecknicmonhcaabDoor.bulk
