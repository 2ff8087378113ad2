/- slots: the plain mathematics: right boards stay right. No program is named here. -/
import Derived.Test.YthjmcopknkemnaaSltN
namespace Go.Proofs.Ythjmcopknkemnaa.slots
set_option linter.unusedVariables false

theorem cl_one {x : Int} {j : Nat} : cl (one x) j = if j = 0 then x else 0 := by
  unfold cl one
  cases j with
  | zero => rfl
  | succ j =>
    rw [if_neg (by omega), List.getD_eq_getElem?_getD, List.getElem?_cons_succ, List.getElem?_replicate]
    split <;> rfl
theorem one_len (x : Int) : (one x).length = 66 := by simp [one]
theorem z_is : z66 = one 0 := rfl
theorem st_one (x : Int) : st (one x) = x := rfl
theorem ad_one (x : Int) : ad (one x) = 0 := by unfold ad; rw [cl_one]; rfl
theorem en_one (x : Int) (k : Nat) : en (one x) k = 0 := by unfold en; rw [cl_one, if_neg (by omega)]
theorem mk_one (x : Int) (k : Nat) : mk (one x) k = 0 := by unfold mk; rw [cl_one, if_neg (by omega)]
structure Big (s : List Int) : Prop where
  st : st s = 2 ∨ st s = 3
  a1 : 1 ≤ ad s
  a2 : ad s ≤ 127
  ok : ∀ k, k < 32 → eok (en s k) (mk s k) = true
  e0 : en s 0 = 0
  e1 : en s 1 ≠ 0
  more : (∃ k, 2 ≤ k ∧ k < 32 ∧ en s k ≠ 0) ↔ Go.Proofs.Ythjmcopknkemnaa.slots.st s = 3
theorem hasS_iff {s : List Int} : hasS s = true ↔ ∃ k, 2 ≤ k ∧ k < 32 ∧ en s k ≠ 0 := by
  unfold hasS
  rw [anyF_iff]
  constructor
  · rintro ⟨k, h1, h2, h3⟩; exact ⟨k, h1, h2, by simpa using h3⟩
  · rintro ⟨k, h1, h2, h3⟩; exact ⟨k, h1, h2, by simpa using h3⟩
theorem areE_iff {s : List Int} : areE s = true ↔ (∀ k, k < 32 → eok (en s k) (mk s k) = true) ∧ en s 0 = 0 ∧ en s 1 ≠ 0 := by
  unfold areE
  rw [Bool.and_eq_true, Bool.and_eq_true, allF_iff]
  simp
theorem adB_iff {x : Int} : adB x = true ↔ 1 ≤ x ∧ x ≤ 127 := by unfold adB; simp
theorem mkB_iff {x : Int} : mkB x = true ↔ 0 ≤ x ∧ x ≤ 65535 := by unfold mkB; simp
theorem right_iff {s : List Int} : right s = true ↔ s = one 0 ∨ s = one 1 ∨ Big s := by
  unfold right
  by_cases h01 : st s = 0 ∨ st s = 1
  · rw [if_pos h01, decide_eq_true_eq]
    constructor
    · intro h
      rcases h01 with q | q
      · rw [q] at h; exact .inl h
      · rw [q] at h; exact .inr (.inl h)
    · rintro (h | h | h)
      · rw [h, st_one]
      · rw [h, st_one]
      · have := h.st; omega
  rw [if_neg h01]
  by_cases h2 : st s = 2
  · rw [if_pos h2, Bool.and_eq_true, Bool.and_eq_true, adB_iff, areE_iff]
    constructor
    · rintro ⟨⟨h3, h4, h5, h6⟩, h7⟩
      refine .inr (.inr ⟨.inl h2, h3.1, h3.2, h4, h5, h6, ⟨fun h => ?_, fun h => by omega⟩⟩)
      rw [hasS_iff.2 h] at h7; cases h7
    · rintro (h | h | h)
      · rw [h, st_one] at h2; omega
      · rw [h, st_one] at h2; omega
      · refine ⟨⟨⟨h.a1, h.a2⟩, h.ok, h.e0, h.e1⟩, ?_⟩
        cases q : hasS s with
        | false => rfl
        | true => have := h.more.1 (hasS_iff.1 q); omega
  rw [if_neg h2]
  by_cases h3 : st s = 3
  · rw [if_pos h3, Bool.and_eq_true, Bool.and_eq_true, adB_iff, areE_iff, hasS_iff]
    constructor
    · rintro ⟨⟨h4, h5, h6, h7⟩, h8⟩
      exact .inr (.inr ⟨.inr h3, h4.1, h4.2, h5, h6, h7, ⟨fun _ => h3, fun _ => h8⟩⟩)
    · rintro (h | h | h)
      · rw [h, st_one] at h3; omega
      · rw [h, st_one] at h3; omega
      · exact ⟨⟨⟨h.a1, h.a2⟩, h.ok, h.e0, h.e1⟩, h.more.2 h3⟩
  · rw [if_neg h3]
    constructor
    · intro h; cases h
    · rintro (h | h | h)
      · rw [h, st_one] at h01; omega
      · rw [h, st_one] at h01; omega
      · have := h.st; omega
theorem right_0 {s : List Int} (h : right s = true) (h0 : st s = 0) : s = z66 := by
  rcases right_iff.1 h with q | q | q
  · exact q
  · rw [q, st_one] at h0; omega
  · have := q.st; omega
theorem right_1 {s : List Int} (h : right s = true) (h0 : st s = 1) : s = one 1 := by
  rcases right_iff.1 h with q | q | q
  · rw [q, st_one] at h0; omega
  · exact q
  · have := q.st; omega
theorem right_big {s : List Int} (h : right s = true) (h0 : ¬ st s = 0) (h1 : ¬ st s = 1) : Big s := by
  rcases right_iff.1 h with q | q | q
  · rw [q, st_one] at h0; omega
  · rw [q, st_one] at h1; omega
  · exact q
theorem right_ad {s : List Int} (h : right s = true) : ad s ≠ 0 ↔ 2 ≤ st s := by
  rcases right_iff.1 h with q | q | q
  · rw [q, st_one, ad_one]; omega
  · rw [q, st_one, ad_one]; omega
  · have := q.st; have := q.a1; omega
theorem right_st {s : List Int} (h : right s = true) : 0 ≤ st s ∧ st s ≤ 3 := by
  rcases right_iff.1 h with q | q | q
  · rw [q, st_one]; omega
  · rw [q, st_one]; omega
  · have := q.st; omega
theorem right_en {s : List Int} (h : right s = true) {k : Nat} (hk : k < 32) : 0 ≤ en s k ∧ en s k ≤ 3 ∧ 0 ≤ mk s k ∧ mk s k ≤ 65535 ∧ (en s k = 0 → mk s k = 0) := by
  rcases right_iff.1 h with q | q | q
  · rw [q, en_one, mk_one]; omega
  · rw [q, en_one, mk_one]; omega
  · have := q.ok k hk
    unfold eok at this
    by_cases e0 : en s k = 0
    · rw [if_pos e0] at this
      have : mk s k = 0 := by simpa using this
      omega
    · rw [if_neg e0] at this
      by_cases e1 : en s k = 1 ∨ en s k = 2 ∨ en s k = 3
      · rw [if_pos e1] at this
        have := mkB_iff.1 this
        omega
      · rw [if_neg e1] at this; cases this
theorem eok_of {e m : Int} (h1 : e = 1 ∨ e = 2 ∨ e = 3) (h2 : 0 ≤ m) (h3 : m ≤ 65535) : eok e m = true := by
  unfold eok
  rw [if_neg (by omega), if_pos h1]
  exact mkB_iff.2 ⟨h2, h3⟩
theorem en_set {s : List Int} (hs : s.length = 66) {j k : Nat} {v : Int} (hj : j < 32) (hk : k < 32) : en (s.set (2 + j) v) k = if k = j then v else en s k := by
  unfold en
  rw [cl_set]
  by_cases h : k = j
  · rw [if_pos ⟨by omega, by omega⟩, if_pos h]
  · rw [if_neg (by omega), if_neg h]
theorem mk_set_en {s : List Int} (hs : s.length = 66) {j k : Nat} {v : Int} (hj : j < 32) : mk (s.set (2 + j) v) k = mk s k := by
  unfold mk
  rw [cl_set, if_neg (by omega)]
theorem en_set_mk {s : List Int} (hs : s.length = 66) {j k : Nat} {v : Int} (hk : k < 32) : en (s.set (34 + j) v) k = en s k := by
  unfold en
  rw [cl_set, if_neg (by omega)]
theorem mk_set {s : List Int} (hs : s.length = 66) {j k : Nat} {v : Int} (hj : j < 32) (hk : k < 32) : mk (s.set (34 + j) v) k = if k = j then v else mk s k := by
  unfold mk
  rw [cl_set]
  by_cases h : k = j
  · rw [if_pos ⟨by omega, by omega⟩, if_pos h]
  · rw [if_neg (by omega), if_neg h]
theorem st_set {s : List Int} (hs : s.length = 66) {j : Nat} {v : Int} (hj : 1 ≤ j) : st (s.set j v) = st s := by
  unfold st
  rw [cl_set, if_neg (by omega)]
theorem ad_set {s : List Int} (hs : s.length = 66) {j : Nat} {v : Int} (hj : 2 ≤ j) : ad (s.set j v) = ad s := by
  unfold ad
  rw [cl_set, if_neg (by omega)]
/-- an endpoint that is there goes to another state -/
theorem big_end {s : List Int} (hs : s.length = 66) (h : Big s) {j : Nat} {v : Int} (h1 : 1 ≤ j) (hj : j < 32) (he : en s j ≠ 0) (hv : v = 1 ∨ v = 2 ∨ v = 3) : Big (s.set (2 + j) v) := by
  have hr := fun (k : Nat) (hk : k < 32) => right_en (right_iff.2 (.inr (.inr h))) hk
  refine ⟨by rw [st_set hs (by omega)]; exact h.st, by rw [ad_set hs (by omega)]; exact h.a1, by rw [ad_set hs (by omega)]; exact h.a2, fun k hk => ?_, ?_, ?_, ?_⟩
  · rw [en_set hs hj hk, mk_set_en hs hj]
    by_cases q : k = j
    · rw [if_pos q]
      have := hr k hk
      exact eok_of hv (by omega) (by omega)
    · rw [if_neg q]; exact h.ok k hk
  · rw [en_set hs hj (by omega), if_neg (by omega)]; exact h.e0
  · rw [en_set hs hj (by omega)]
    by_cases q : 1 = j
    · rw [if_pos q]; omega
    · rw [if_neg q]; exact h.e1
  · rw [st_set hs (by omega), ← h.more]
    constructor
    · rintro ⟨k, k1, k2, k3⟩
      rw [en_set hs hj k2] at k3
      by_cases q : k = j
      · exact ⟨k, k1, k2, by rw [q]; exact he⟩
      · rw [if_neg q] at k3; exact ⟨k, k1, k2, k3⟩
    · rintro ⟨k, k1, k2, k3⟩
      refine ⟨k, k1, k2, ?_⟩
      rw [en_set hs hj k2]
      by_cases q : k = j
      · rw [if_pos q]; omega
      · rw [if_neg q]; exact k3
theorem big_mark {s : List Int} (hs : s.length = 66) (h : Big s) {j : Nat} {v : Int} (hj : j < 32) (he : en s j ≠ 0) (h1 : 0 ≤ v) (h2 : v ≤ 65535) : Big (s.set (34 + j) v) := by
  refine ⟨by rw [st_set hs (by omega)]; exact h.st, by rw [ad_set hs (by omega)]; exact h.a1, by rw [ad_set hs (by omega)]; exact h.a2, fun k hk => ?_, ?_, ?_, ?_⟩
  · rw [en_set_mk hs hk, mk_set hs hj hk]
    by_cases q : k = j
    · rw [if_pos q]
      have hr := right_en (right_iff.2 (.inr (.inr h))) hk
      rw [q] at hr ⊢
      exact eok_of (by omega) h1 h2
    · rw [if_neg q]; exact h.ok k hk
  · rw [en_set_mk hs (by omega)]; exact h.e0
  · rw [en_set_mk hs (by omega)]; exact h.e1
  · rw [st_set hs (by omega), ← h.more]
    constructor
    · rintro ⟨k, k1, k2, k3⟩; rw [en_set_mk hs k2] at k3; exact ⟨k, k1, k2, k3⟩
    · rintro ⟨k, k1, k2, k3⟩; exact ⟨k, k1, k2, by rw [en_set_mk hs k2]; exact k3⟩
theorem cl_cfgd {s : List Int} (hs : s.length = 66) {a : Int} {j : Nat} (hj : j < 66) : cl (cfgd s a) j = if j = 0 then (if a = 0 then 2 else 3) else cfN s a 32 j := by
  unfold cfgd
  rw [cl_set, cfL_length, cl_cfL hj]
  by_cases q : j = 0
  · rw [if_pos ⟨q, by omega⟩, if_pos q]
  · rw [if_neg (by omega), if_neg q]
theorem en_cfgd {s : List Int} (hs : s.length = 66) {a : Int} {k : Nat} (hk : k < 32) : en (cfgd s a) k = if k < 2 then en s k else if bit a k = 0 then 0 else if en s k = 0 then 1 else en s k := by
  unfold en
  rw [cl_cfgd hs (by omega), if_neg (by omega)]
  by_cases q : k < 2
  · rw [if_pos q, cfN_no (by omega) (by omega)]
  · rw [if_neg q, cfN_lo (by omega), show 2 + k - 2 = k by omega]
theorem mk_cfgd {s : List Int} (hs : s.length = 66) {a : Int} {k : Nat} (hk : k < 32) : mk (cfgd s a) k = if k < 2 then mk s k else if bit a k = 0 then 0 else mk s k := by
  unfold mk
  rw [cl_cfgd hs (by omega), if_neg (by omega)]
  by_cases q : k < 2
  · rw [if_pos q, cfN_no (by omega) (by omega)]
  · rw [if_neg q, cfN_hi (by omega), show 34 + k - 34 = k by omega]
theorem st_cfgd {s : List Int} (hs : s.length = 66) {a : Int} : st (cfgd s a) = if a = 0 then 2 else 3 := by
  unfold st
  rw [cl_cfgd hs (by omega), if_pos rfl]
theorem ad_cfgd {s : List Int} (hs : s.length = 66) {a : Int} : ad (cfgd s a) = ad s := by
  unfold ad
  rw [cl_cfgd hs (by omega), if_neg (by omega), cfN_no (by omega) (by omega)]
theorem bits_zero {a : Int} (h : stB a = true) (hb : ∀ k, 2 ≤ k → k < 32 → bit a k = 0) : a = 0 := by
  unfold stB at h
  simp only [Bool.and_eq_true, decide_eq_true_eq] at h
  obtain ⟨n, rfl⟩ : ∃ n : Nat, a = n := ⟨a.toNat, by omega⟩
  have : n = 0 := by
    refine Nat.eq_of_testBit_eq fun k => ?_
    rw [Nat.zero_testBit, Nat.testBit_eq_decide_div_mod_eq]
    refine decide_eq_false ?_
    by_cases k2 : k < 2
    · have : k = 0 ∨ k = 1 := by omega
      rcases this with rfl | rfl
      · simp; omega
      · simp; omega
    · by_cases k3 : k < 32
      · have := hb k (by omega) k3
        unfold bit at this
        have e : ((n / 2 ^ k % 2 : Nat) : Int) = (n : Int) / 2 ^ k % 2 := by simp
        rw [← e] at this
        omega
      · have h2 : 2 ^ 32 ≤ 2 ^ k := Nat.pow_le_pow_right (by omega) (by omega)
        rw [Nat.div_eq_of_lt (by omega)]
        omega
  omega
theorem bit_01 (a : Int) (k : Nat) : bit a k = 0 ∨ bit a k = 1 := by unfold bit; omega
theorem bit_zero (k : Nat) : bit 0 k = 0 := by unfold bit; simp
theorem big_cfg {s : List Int} (hs : s.length = 66) (h : Big s) {a : Int} (ha : stB a = true) : Big (cfgd s a) := by
  have hr := fun k hk => right_en (right_iff.2 (.inr (.inr h))) (k := k) hk
  refine ⟨?_, by rw [ad_cfgd hs]; exact h.a1, by rw [ad_cfgd hs]; exact h.a2, fun k hk => ?_, ?_, ?_, ?_⟩
  · rw [st_cfgd hs]; split <;> simp
  · rw [en_cfgd hs hk, mk_cfgd hs hk]
    by_cases q : k < 2
    · rw [if_pos q, if_pos q]; exact h.ok k hk
    · rw [if_neg q, if_neg q]
      by_cases b : bit a k = 0
      · rw [if_pos b, if_pos b]; rfl
      · rw [if_neg b, if_neg b]
        have := hr k hk
        by_cases e : en s k = 0
        · rw [if_pos e]; exact eok_of (.inl rfl) (by omega) (by omega)
        · rw [if_neg e]; exact h.ok k hk
  · rw [en_cfgd hs (by omega), if_pos (by omega)]; exact h.e0
  · rw [en_cfgd hs (by omega), if_pos (by omega)]; exact h.e1
  · rw [st_cfgd hs]
    constructor
    · rintro ⟨k, k1, k2, k3⟩
      rw [en_cfgd hs k2, if_neg (by omega)] at k3
      by_cases z : a = 0
      · subst z
        rw [bit_zero, if_pos rfl] at k3
        exact absurd rfl k3
      · rw [if_neg z]
    · intro h3
      by_cases z : a = 0
      · rw [if_pos z] at h3; omega
      · by_cases q : ∃ k, 2 ≤ k ∧ k < 32 ∧ bit a k ≠ 0
        · obtain ⟨k, k1, k2, k3⟩ := q
          refine ⟨k, k1, k2, ?_⟩
          rw [en_cfgd hs k2, if_neg (by omega), if_neg k3]
          split
          · omega
          · assumption
        · exact absurd (bits_zero ha fun k k1 k2 => by
            by_cases b : bit a k = 0
            · exact b
            · exact absurd ⟨k, k1, k2, b⟩ q) z
theorem big_adr {x : Int} (h1 : 1 ≤ x) (h2 : x ≤ 127) : Big ((((one 1).set 0 2).set 1 x).set 3 1) := by
  have l1 := one_len 1
  have hc : ∀ j, cl ((((one 1).set 0 2).set 1 x).set 3 1) j = if j = 3 then 1 else if j = 1 then x else if j = 0 then 2 else 0 := by
    intro j
    rw [cl_set, cl_set, cl_set, cl_one]
    simp only [List.length_set, l1]
    by_cases a : j = 3
    · subst a; simp
    by_cases b : j = 1
    · subst b; simp
    by_cases c : j = 0
    · subst c; simp
    simp [a, b, c]
  have he : ∀ k, en ((((one 1).set 0 2).set 1 x).set 3 1) k = if k = 1 then 1 else 0 := by
    intro k
    unfold en
    rw [hc]
    by_cases a : k = 1
    · subst a; rfl
    · rw [if_neg (by omega), if_neg (by omega), if_neg (by omega), if_neg a]
  have hm : ∀ k, mk ((((one 1).set 0 2).set 1 x).set 3 1) k = 0 := by
    intro k
    unfold mk
    rw [hc, if_neg (by omega), if_neg (by omega), if_neg (by omega)]
  have hst : st ((((one 1).set 0 2).set 1 x).set 3 1) = 2 := by unfold st; rw [hc]; rfl
  have had : ad ((((one 1).set 0 2).set 1 x).set 3 1) = x := by unfold ad; rw [hc]; rfl
  refine ⟨.inl hst, by rw [had]; exact h1, by rw [had]; exact h2, fun k hk => ?_, by rw [he]; rfl, by rw [he]; decide, ?_⟩
  · rw [he, hm]
    by_cases a : k = 1
    · rw [if_pos a]; rfl
    · rw [if_neg a]; rfl
  · rw [hst]
    constructor
    · rintro ⟨k, k1, k2, k3⟩
      rw [he, if_neg (by omega)] at k3
      exact absurd rfl k3
    · intro h; omega
theorem ad_adr {x : Int} : ad ((((one 1).set 0 2).set 1 x).set 3 1) = x := by
  unfold ad
  rw [cl_set, cl_set]
  simp [one_len]
/-- a code other than Success leaves the slot as it was -/
theorem beh_no {s : List Int} {x k e a : Int} (h : (beh s x k e a).2 ≠ 1) : (beh s x k e a).1 = s := by
  unfold beh at *
  split
  · rfl
  · rename_i h0
    rw [if_neg h0] at h
    split
    · rename_i h3; rw [if_pos h3] at h; exact absurd rfl h
    · rename_i h3
      rw [if_neg h3] at h
      split
      · rename_i h4
        rw [if_pos h4] at h
        unfold adr at *
        split
        · rename_i h5; rw [if_pos h5] at h; exact absurd rfl h
        · rfl
      · rename_i h4
        rw [if_neg h4] at h
        split
        · rename_i h5
          rw [if_pos h5] at h
          unfold cfg at *
          split
          · rfl
          · rename_i h6
            rw [if_neg h6] at h
            split
            · rfl
            · rename_i h7; rw [if_neg h7] at h; exact absurd rfl h
        · rename_i h5
          rw [if_neg h5] at h
          unfold atE at *
          split
          · rfl
          · rename_i h6
            rw [if_neg h6] at h
            split
            · rfl
            · rename_i h7
              rw [if_neg h7] at h
              split
              · rename_i h8
                rw [if_pos h8] at h
                unfold mrk at *
                split
                · rfl
                · rename_i h9
                  rw [if_neg h9] at h
                  split
                  · rename_i h10; rw [if_pos h10] at h; exact absurd rfl h
                  · rfl
              · rename_i h8
                rw [if_neg h8] at h
                split
                · rename_i h9; rw [if_pos h9] at h; exact absurd rfl h
                · rfl
theorem nxt_st {k e : Int} : (nxt k e).1 = 1 ∨ (nxt k e).1 = 3 := by
  unfold nxt; split
  · exact .inr rfl
  · split
    · exact .inr rfl
    · exact .inl rfl
/-- a slot behind a command: right, and its address is none, the same, or the least that was free -/
theorem beh_right {s : List Int} {x k e a : Int} (hs : s.length = 66) (h : right s = true) (h1 : 1 ≤ x) (h2 : x ≤ 127) :
    right (beh s x k e a).1 = true ∧ (ad (beh s x k e a).1 = 0 ∨ ad (beh s x k e a).1 = ad s ∨ ad (beh s x k e a).1 = x) := by
  unfold beh
  by_cases h0 : st s = 0
  · rw [if_pos h0]; exact ⟨h, .inr (.inl rfl)⟩
  rw [if_neg h0]
  by_cases h3 : k = 3
  · rw [if_pos h3]; exact ⟨right_iff.2 (.inl rfl), .inl (ad_one 0)⟩
  rw [if_neg h3]
  by_cases h4 : k = 4
  · rw [if_pos h4]
    unfold adr
    by_cases q : st s = 1
    · rw [if_pos q, right_1 h q]
      exact ⟨right_iff.2 (.inr (.inr (big_adr h1 h2))), .inr (.inr ad_adr)⟩
    · rw [if_neg q]; exact ⟨h, .inr (.inl rfl)⟩
  rw [if_neg h4]
  by_cases h5 : k = 5
  · rw [if_pos h5]
    unfold cfg
    by_cases q : stB a = false
    · rw [if_pos q]; exact ⟨h, .inr (.inl rfl)⟩
    rw [if_neg q]
    by_cases q1 : st s = 1
    · rw [if_pos q1]; exact ⟨h, .inr (.inl rfl)⟩
    rw [if_neg q1]
    exact ⟨right_iff.2 (.inr (.inr (big_cfg hs (right_big h h0 q1) (by simpa using q)))), .inr (.inl (ad_cfgd hs))⟩
  rw [if_neg h5]
  unfold atE
  by_cases q : edB e = false
  · rw [if_pos q]; exact ⟨h, .inr (.inl rfl)⟩
  rw [if_neg q]
  have hd := ed_in (s := e) (by simpa using q)
  by_cases q0 : en s e.toNat = 0
  · rw [if_pos q0]; exact ⟨h, .inr (.inl rfl)⟩
  rw [if_neg q0]
  have hbig : Big s := by
    rcases right_iff.1 h with z | z | z
    · rw [z, en_one] at q0; exact absurd rfl q0
    · rw [z, en_one] at q0; exact absurd rfl q0
    · exact z
  by_cases q8 : k = 8
  · rw [if_pos q8]
    unfold mrk
    by_cases m : mkB a = false
    · rw [if_pos m]; exact ⟨h, .inr (.inl rfl)⟩
    rw [if_neg m]
    by_cases m3 : en s e.toNat = 3
    · rw [if_pos m3]
      have := mkB_iff.1 (by simpa using m)
      exact ⟨right_iff.2 (.inr (.inr (big_mark hs hbig (by omega) q0 this.1 this.2))), .inr (.inl (ad_set hs (by omega)))⟩
    · rw [if_neg m3]; exact ⟨h, .inr (.inl rfl)⟩
  rw [if_neg q8]
  split
  · refine ⟨right_iff.2 (.inr (.inr (big_end hs hbig (by omega) (by omega) q0 ?_))), .inr (.inl (ad_set hs (by omega)))⟩
    have := nxt_st (k := k) (e := en s e.toNat)
    omega
  · exact ⟨h, .inr (.inl rfl)⟩
theorem count_le1 {p : List Int → Bool} : ∀ l : Bd, l.countP p ≤ 1 ↔ ∀ i j, i < j → j < l.length → p (sl l i) = true → p (sl l j) = true → False
  | [] => by simp
  | s :: r => by
    have ih := count_le1 (p := p) r
    have h0 : sl (s :: r) 0 = s := rfl
    have hS : ∀ i, sl (s :: r) (i + 1) = sl r i := fun i => rfl
    rw [List.countP_cons]
    by_cases hp : p s = true
    · rw [if_pos hp]
      constructor
      · intro h i j hij hj hi hjp
        have hz : r.countP p = 0 := by omega
        rw [List.countP_eq_zero] at hz
        obtain ⟨j', rfl⟩ : ∃ j', j = j' + 1 := ⟨j - 1, by omega⟩
        rw [hS] at hjp
        exact hz _ (sl_mem (by simpa using hj)) hjp
      · intro h
        have hz : r.countP p = 0 := by
          rw [List.countP_eq_zero]
          intro t ht hpt
          obtain ⟨i, hi, e⟩ := List.mem_iff_getElem.1 ht
          have : sl r i = t := by
            have := sl_at hi
            rw [List.getElem?_eq_getElem hi, e] at this
            exact (Option.some.inj this).symm
          exact h 0 (i + 1) (by omega) (by simpa using hi) (by rw [h0]; exact hp) (by rw [hS, this]; exact hpt)
        omega
    · rw [if_neg hp, Nat.add_zero, ih]
      constructor
      · intro h i j hij hj hi hjp
        obtain ⟨j', rfl⟩ : ∃ j', j = j' + 1 := ⟨j - 1, by omega⟩
        cases i with
        | zero => rw [h0] at hi; exact hp hi
        | succ i => exact h i j' (by omega) (by simpa using hj) (by rw [← hS]; exact hi) (by rw [← hS]; exact hjp)
      · intro h i j hij hj hi hjp
        exact h (i + 1) (j + 1) (by omega) (by simpa using hj) (by rw [hS]; exact hi) (by rw [hS]; exact hjp)
structure Ok (B : Bd) : Prop where
  zero : sl B 0 = z66
  right : ∀ i, i < 9 → right (sl B i) = true
  apart : ∀ i j, i < j → j < 9 → ad (sl B i) = ad (sl B j) → ad (sl B i) = 0
theorem chk_iff {B : Bd} (hw : Wf B) : chk B = true ↔ Ok B := by
  have hn := hw.nine
  unfold chk
  rw [Bool.and_eq_true, decide_eq_true_eq, List.all_eq_true]
  have hall : (∀ s ∈ B, okS B s = true) ↔ ∀ i, i < 9 → okS B (sl B i) = true := by
    constructor
    · intro h i hi; exact h _ (sl_mem (by omega))
    · intro h t ht
      obtain ⟨i, hi, e⟩ := List.mem_iff_getElem.1 ht
      have : sl B i = t := by
        have := sl_at hi
        rw [List.getElem?_eq_getElem hi, e] at this
        exact (Option.some.inj this).symm
      rw [← this]; exact h i (by omega)
  rw [hall]
  unfold okS
  simp only [Bool.and_eq_true, Bool.or_eq_true, beq_iff_eq, decide_eq_true_eq]
  constructor
  · rintro ⟨h0, h⟩
    refine ⟨h0, fun i hi => (h i hi).1, fun i j hij hj e => ?_⟩
    rcases (h i (by omega)).2 with q | q
    · exact q
    · unfold own at q
      exact ((count_le1 B).1 q i j hij (by omega) (by simp) (by simp [e])).elim
  · intro h
    refine ⟨h.zero, fun i hi => ⟨h.right i hi, ?_⟩⟩
    by_cases z : ad (sl B i) = 0
    · exact .inl z
    · refine .inr ?_
      unfold own
      refine (count_le1 B).2 fun a b hab hb h1 h2 => ?_
      have h1' : ad (sl B a) = ad (sl B i) := by simpa using h1
      have h2' : ad (sl B b) = ad (sl B i) := by simpa using h2
      have := h.apart a b hab (by omega) (by rw [h1', h2'])
      omega
theorem Ok.set {B : Bd} (h : Ok B) (hw : Wf B) {n : Nat} {s : List Int} (h1 : 1 ≤ n) (h2 : n < 9) (hr : Go.Proofs.Ythjmcopknkemnaa.slots.right s = true) (ha : ∀ j, j < 9 → j ≠ n → ad s = ad (sl B j) → ad s = 0) : Ok (B.set n s) := by
  have hsl := fun j => sl_set (B := B) (s := s) (j := j) hw.nine h2
  refine ⟨by rw [hsl, if_neg (by omega)]; exact h.zero, fun i hi => ?_, fun i j hij hj e => ?_⟩
  · rw [hsl]
    by_cases q : i = n
    · rw [if_pos q]; exact hr
    · rw [if_neg q]; exact h.right i hi
  · rw [hsl, hsl] at e
    rw [hsl]
    by_cases q : i = n
    · rw [if_pos q] at e ⊢
      rw [if_neg (by omega)] at e
      exact ha j hj (by omega) e
    · rw [if_neg q] at e ⊢
      by_cases q2 : j = n
      · rw [if_pos q2] at e
        rw [e]
        exact ha i (by omega) q e.symm
      · rw [if_neg q2] at e
        exact h.apart i j hij hj e
theorem la_out {B : Bd} (hw : Wf B) {j : Nat} (hj : j < 9) : ad (sl B j) ≠ (la B : Int) := by
  intro e
  refine (lst_is (ads B)).out ?_
  show (la B : Int) ∈ ads B
  rw [← e]
  exact List.mem_map.2 ⟨_, sl_mem (by rw [hw.nine]; exact hj), rfl⟩
theorem enb_ok {B : Bd} (hw : Wf B) (h : Ok B) : Ok (enb B).B := by
  unfold enb
  split
  · rename_i q
    exact h.set hw (fr_le B).1 (by omega) (right_iff.2 (.inr (.inl rfl))) (fun j _ _ _ => ad_one 1)
  · exact h
theorem ats_ok {B : Bd} {k s e a : Int} (hw : Wf B) (h : Ok B) : Ok (ats B k s e a).B := by
  unfold ats
  split
  · exact h
  · rename_i q
    have hn := sl_in (s := s) (by simpa using q)
    have hla := la_le hw.nine
    have hla1 : 1 ≤ la B := (lst_is (ads B)).pos
    have hb := beh_right (x := (la B : Int)) (k := k) (e := e) (a := a) (hw.sl (i := s.toNat) (by omega)) (h.right s.toNat (by omega)) (by omega) (by omega)
    refine h.set hw (by omega) (by omega) hb.1 (fun j hj hjn e => ?_)
    rcases hb.2 with z | z | z
    · exact z
    · rw [z] at e ⊢
      rcases Nat.lt_or_gt_of_ne hjn with y | y
      · have := h.apart j s.toNat y (by omega) e.symm
        omega
      · exact h.apart s.toNat j y hj e
    · rw [z] at e; exact absurd e.symm (la_out hw hj)
theorem do_ok {B : Bd} {k s e a : Int} (hw : Wf B) (h : Ok B) : Ok (doB B k s e a).B := by
  unfold doB
  split
  · exact h
  · split
    · exact h
    · split
      · exact enb_ok hw h
      · split
        · exact ats_ok hw h
        · exact h
def zB : Bd := List.replicate 9 z66
theorem zB_wf : Wf zB := ⟨by simp [zB], fun s hs => by rw [List.eq_of_mem_replicate hs]; simp [z66]⟩
theorem zB_fl : fl zB = List.replicate 594 0 := by decide +kernel
theorem zB_sl {i : Nat} (hi : i < 9) : sl zB i = z66 := by
  unfold sl zB
  rw [List.getD_eq_getElem?_getD, List.getElem?_replicate, if_pos hi]
  rfl
theorem zB_ok : Ok zB := ⟨zB_sl (by omega), fun i hi => by rw [zB_sl hi]; exact right_iff.2 (.inl rfl), fun i j hij hj _ => by rw [zB_sl (by omega)]; exact ad_one 0⟩
theorem lives_do : doB zB 2 0 0 0 = ⟨zB.set 1 (one 1), 1, 1⟩ := by
  have h1 : chk zB = true := (chk_iff zB_wf).2 zB_ok
  have h2 : fr zB = 1 := fr_some (by omega) (by omega) (zB_sl (by omega)) (fun x q1 q2 => by omega)
  unfold doB
  rw [h1, if_neg (by simp), if_neg (by omega), if_pos rfl]
  unfold enb
  rw [h2, if_pos (by omega)]
  rfl
end Go.Proofs.Ythjmcopknkemnaa.slots
