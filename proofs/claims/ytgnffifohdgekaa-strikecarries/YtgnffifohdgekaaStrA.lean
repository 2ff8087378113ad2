/- strike: what isSize, total, isRow, Split and Join answer. -/
import Derived.Test.YtgnffifohdgekaaStrM
import Derived.Test.YtgnffifohdgekaaPipL
import Derived.Test.YtgnffifohdgekaaShelf
namespace Go.Proofs.Ytgnffifohdgekaa.strike
open Go.RowKit Go.Proofs.Ytgnffifohdgekaa.pipe
set_option linter.unusedVariables false
set_option linter.unusedSimpArgs false
set_option maxRecDepth 100000

theorem join_none (a : Option Addr) (c : Nat) (w : World) : Calls Try.prog 34 #[.slice a 0 c, .string ⟨#[]⟩] w fun e w' => e = .returned (.string ⟨#[]⟩) ∧ Below w.heap.size w w' := by
  go_enter Try.func34, Try.ntmps34
  go_wp2
  go_ret
  exact ⟨rfl, Below.refl _ _⟩
theorem join_flat (l : List ByteArray) : (⟨(Lib.join (l.map (·.data.toList)) (⟨#[]⟩ : ByteArray).data.toList).toArray⟩ : ByteArray) = cat l := by
  have e : ∀ ys : List (List UInt8), Lib.join ys [] = ys.flatten := by
    intro ys
    cases ys with
    | nil => rfl
    | cons y r => rw [Lib.join_cons]; simp [Lib.joinTail]
  show (⟨(Lib.join (l.map (·.data.toList)) []).toArray⟩ : ByteArray) = _
  rw [e]
  rfl
set_option maxHeartbeats 400000 in
theorem join_any (v : Value) (l : List ByteArray) (w : World) (h : Rts w v l) (hl : sizes l ≤ 140737488355328) (hn : l.length ≤ 140737488355328) :
    Calls Try.prog 34 #[v, .string ⟨#[]⟩] w fun e w' => e = .returned (.string (cat l)) ∧ Below w.heap.size w w' := by
  obtain ⟨a, c, rfl, h1, h2, h4⟩ := h
  by_cases hz : 0 < l.length
  · obtain ⟨g, off, rfl, hg, hc⟩ := h4 hz
    have hs : (Lib.join (l.map (·.data.toList)) (⟨#[]⟩ : ByteArray).data.toList).length ≤ 140737488355328 := by
      have := congrArg ByteArray.size (join_flat l)
      rw [cat_size, size_list] at this
      exact Nat.le_trans (Nat.le_of_eq this) hl
    have := Try.strings_Join g off c l ⟨#[]⟩ w hc hg hn h1 hs
    rw [join_flat] at this
    exact this
  · have : l = [] := List.eq_nil_of_length_eq_zero (by omega)
    subst this
    exact join_none a c w
theorem isSize_any (z : Int) (w : World) : Calls Try.prog 31 #[.int .i64 z] w fun e w' => e = .returned (.bool (sizB z)) ∧ w = w' := by
  unfold sizB
  cases h1 : decide (1 ≤ z)
  · go_enter Try.func31, Try.ntmps31; go_wp2; go_ret; exact ⟨rfl, rfl⟩
  cases h2 : decide (z ≤ 64) <;> (go_enter Try.func31, Try.ntmps31; go_wp2; go_ret; exact ⟨rfl, rfl⟩)
theorem wrap_wrap (a b : Int) : wrap64 (wrap64 a + b) = wrap64 (a + b) := by
  unfold wrap64; omega
set_option maxHeartbeats 1000000 in
theorem total_any (v : Value) (l : List ByteArray) (w : World) (h : Rts w v l) : Calls Try.prog 32 #[v] w fun e w' => e = .returned (.int .i64 (wrap64 (sizes l : Int))) ∧ w = w' := by
  obtain ⟨a, c, rfl, hlc, hcm, hc⟩ := h.cell
  have HA : Hid (∀ j x, l[j]? = some x → ∃ g off, a = some ⟨g, off, none⟩ ∧ w.cell? ⟨g, off + j, none⟩ = some (.string x)) := hc
  unfold maxLen at hcm
  obtain ⟨n, hn⟩ : ∃ n, l.length = n := ⟨_, rfl⟩
  have HN : Hid (l.length = n) := hn
  obtain ⟨z, hz⟩ : ∃ z, wrap64 (sizes l : Int) = z := ⟨_, rfl⟩
  have HZ : Hid (wrap64 (sizes l : Int) = z) := hz
  rw [hn] at hlc ⊢
  rw [hz]
  clear h hc hn hz
  go_enter Try.func32, Try.ntmps32
  go_wp2
  go_loopw [3, 8] (fun sv i wr => ∃ (k : Nat) (s : Int), k ≤ n ∧ sv = .int .i64 s ∧ i = .int .i64 (k : Int) ∧ w = wr ∧ Hid (wrap64 (s + (sizes (l.drop k) : Int)) = z ∧ wrap64 s = s)) (fun _ i _ => n - (intOf i).toNat)
  case atStart => exact ⟨0, 0, Nat.zero_le _, rfl, rfl, rfl, by rw [Int.zero_add, List.drop_zero]; exact HZ.out, by unfold wrap64; decide⟩
  case round =>
    obtain ⟨k, s, hk, rfl, rfl, rfl, HR⟩ := hrel
    by_cases hlt : ¬ k < n
    · have HE : Hid (s = z) := by
        have := HR.out.1
        rw [List.drop_eq_nil_of_le (by have := HN.out; omega), show ((sizes [] : Nat) : Int) = 0 from rfl, Int.add_zero, HR.out.2] at this
        exact this
      clear HR
      go_wp2
      go_ret
      rw [← HE.out]
      exact ⟨rfl, rfl⟩
    · have hlt : k < n := by omega
      have hkl : k < l.length := by have := HN.out; omega
      obtain ⟨x, hx⟩ : ∃ x, l[k]? = some x := ⟨l[k], List.getElem?_eq_getElem hkl⟩
      have hxk : l[k] = x := (List.getElem?_eq_some_iff.1 hx).2
      obtain ⟨g, off, rfl, cx⟩ := HA.out k x hx
      obtain ⟨s2, hs2⟩ : ∃ s2, wrap64 (s + (x.size : Int)) = s2 := ⟨_, rfl⟩
      have HR2 : Hid (wrap64 (s2 + (sizes (l.drop (k + 1)) : Int)) = z ∧ wrap64 s2 = s2) := by
        have := HR.out.1
        rw [sizes_drop hkl, hxk] at this
        refine ⟨?_, ?_⟩
        · rw [← hs2, wrap_wrap, ← this]; congr 1; omega
        · rw [← hs2]; have := wrap_wrap (s + (x.size : Int)) 0; rwa [Int.add_zero, Int.add_zero] at this
      clear HR hx hxk hkl HA
      go_wp2
      go_roundw
      case rel => exact ⟨k + 1, s2, by omega, by rw [hs2], by go_num, trivial, HR2.out⟩
      case measure => simp [intOf]; omega
set_option maxHeartbeats 1000000 in
theorem isRow_any (v : Value) (l : List ByteArray) (s : Nat) (w : World) (h : Rts w v l) : Calls Try.prog 33 #[v, .int .i64 (s : Int)] w fun e w' => e = .returned (.bool (rowB s l)) ∧ w = w' := by
  obtain ⟨a, c, rfl, hlc, hcm, hc⟩ := h.cell
  have HA : Hid (∀ j x, l[j]? = some x → ∃ g off, a = some ⟨g, off, none⟩ ∧ w.cell? ⟨g, off + j, none⟩ = some (.string x)) := hc
  unfold maxLen at hcm
  obtain ⟨n, hn⟩ : ∃ n, l.length = n := ⟨_, rfl⟩
  have HN : Hid (l.length = n) := hn
  obtain ⟨z, hz⟩ : ∃ z, rowB s l = z := ⟨_, rfl⟩
  have HZ : Hid (rowB s l = z) := hz
  rw [hn] at hlc ⊢
  rw [hz]
  clear h hc hn hz
  by_cases h0 : n = 0
  · subst h0
    have HE : Hid (false = z) := by rw [← HZ.out, List.eq_nil_of_length_eq_zero HN.out]; rfl
    clear HZ HN HA
    go_enter Try.func33, Try.ntmps33
    go_wp2
    go_ret
    rw [← HE.out]
    exact ⟨rfl, rfl⟩
  obtain ⟨m, rfl⟩ : ∃ m, n = m + 1 := ⟨n - 1, by omega⟩
  have e0 : (((m + 1 : Nat) : Int) == 0) = false := by rw [beq_eq_false_iff_ne]; omega
  have e1 : ((m + 1 : Nat) : Int) - 1 = (m : Int) := by omega
  generalize hM : m + 1 = M at *
  clear h0
  go_enter Try.func33, Try.ntmps33
  go_wp2
  go_loopw [18] (fun i wr => ∃ (k : Nat), k ≤ m ∧ i = .int .i64 (k : Int) ∧ w = wr ∧ Hid (rowB s (l.drop k) = z)) (fun i _ => m - (intOf i).toNat)
  case atStart => exact ⟨0, Nat.zero_le _, rfl, rfl, HZ.out⟩
  case round =>
    obtain ⟨k, hk, rfl, rfl, HR⟩ := hrel
    have hkl : k < l.length := by have := HN.out; omega
    obtain ⟨x, hx⟩ : ∃ x, l[k]? = some x := ⟨l[k], List.getElem?_eq_getElem hkl⟩
    have hxk : l[k] = x := (List.getElem?_eq_some_iff.1 hx).2
    obtain ⟨g, off, rfl, cx⟩ := HA.out k x hx
    by_cases hlt : ¬ k < m
    · obtain rfl : k = m := by omega
      have HE : Hid (decide (x.size < s) = z) := by
        have := HR.out
        rw [row_last hkl (by have := HN.out; omega), hxk] at this
        exact this
      clear HR hx hxk hkl HA HZ
      go_wp2
      go_ret
      rw [← HE.out]
      exact ⟨rfl, rfl⟩
    · have hlt : k < m := by omega
      have hR := HR.out
      rw [row_step (by have := HN.out; omega), hxk] at hR
      by_cases hs : ¬ x.size = s
      · have HE : Hid (false = z) := by rw [← hR, decide_eq_false hs, Bool.false_and]; rfl
        have e2 : ((x.size : Int) != (s : Int)) = true := by rw [bne_iff_ne]; omega
        clear HR hR hx hxk hkl HA HZ hs
        go_wp2
        go_ret
        rw [← HE.out]
        exact ⟨rfl, rfl⟩
      · have hs : x.size = s := Classical.not_not.1 hs
        have HE : Hid (rowB s (l.drop (k + 1)) = z) := by rw [decide_eq_true hs, Bool.true_and] at hR; exact hR
        have e2 : ((x.size : Int) != (s : Int)) = false := by rw [hs]; simp
        clear HR hR hx hxk hkl HA HZ hs
        go_wp2
        go_roundw
        case rel => exact ⟨k + 1, by omega, by go_num, trivial, HE.out⟩
        case measure => simp [intOf]; omega
def strLen : Value → Nat
  | .string b => b.size
  | _ => 0
theorem split_step {n k m : Nat} {t y : ByteArray} (hn : 0 < n) (hy : t.extract (k * n) t.size = y) (hm : k * n + m = t.size) (hle : n ≤ m) :
    (pcs n t).take k ++ [y.extract 0 n] = (pcs n t).take (k + 1) ∧ t.extract ((k + 1) * n) t.size = y.extract n m ∧ (k + 1) * n + (m - n) = t.size ∧ (y.extract n m).size = m - n := by
  have hz : y.size = m := by rw [← hy, ByteArray.size_extract]; omega
  have hk : k < (pcs n t).length := by rw [pcs_length]; have := (div_fits (s := t.size) (i := k) hn).2 (by omega); omega
  refine ⟨?_, ?_, ?_, ?_⟩
  · rw [List.take_succ_eq_append_getElem hk, pcs_at]
    congr 2
    apply ext_list
    unfold pc
    rw [ex_list, ← hy, ex_list, ex_list, List.drop_zero, List.take_take, Nat.succ_mul]
    generalize k * n = q at *
    congr 1
    omega
  · apply ext_list
    rw [ex_list, ex_list, ← hy, ex_list, Nat.succ_mul]
    generalize k * n = q at *
    rw [List.drop_take, List.drop_drop, List.take_take]
    congr 1
    omega
  · rw [Nat.succ_mul]; omega
  · rw [ByteArray.size_extract]; omega
theorem split_end {n k m : Nat} {t y : ByteArray} (hn : 0 < n) (hy : t.extract (k * n) t.size = y) (hm : k * n + m = t.size) (hlt : m < n) : (pcs n t).take k ++ [y] = pcs n t := by
  have hd : t.size / n = k := Nat.div_eq_of_lt_le (by omega) (by rw [Nat.succ_mul]; omega)
  have hk : k < (pcs n t).length := by rw [pcs_length]; omega
  have h := List.take_succ_eq_append_getElem hk
  rw [List.take_of_length_le (by rw [pcs_length]; omega), pcs_at] at h
  have hmin : min ((k + 1) * n) t.size = t.size := by rw [Nat.succ_mul]; omega
  unfold pc at h
  rw [hmin, hy] at h
  exact h.symm
set_option maxHeartbeats 2000000 in
theorem split_ok (n : Nat) (t : ByteArray) (w : World) (h1 : 1 ≤ n) (h2 : n ≤ 64) (ht : t.size ≤ 4096) :
    Calls Try.prog 16 #[.string t, .int .i64 (n : Int)] w fun e w' => ∃ v, e = .returned (.tuple #[v, .int .i64 0]) ∧ Txs w' w.heap.size v (pcs n t) ∧ Below w.heap.size w w' := by
  have HSZ : Hid (∀ u, Calls Try.prog 31 #[.int .i64 (n : Int)] u fun e w' => e = .returned (.bool true) ∧ u = w') := fun u => by
    have := isSize_any (n : Int) u
    rw [(siz_iff _).2 ⟨by omega, by omega⟩] at this
    exact this
  go_enter Try.func16, Try.ntmps16
  go_wp2_with fail
  refine (HSZ.out _).mono ?_
  rintro e u ⟨rfl, rfl⟩
  clear HSZ
  go_wp2
  go_loopw [0, 6] (fun sv pv wr => ∃ (k m : Nat) (y : ByteArray), sv = .string y ∧ y.size = m ∧ m ≤ 4096 ∧ Hid (Txs wr w.heap.size pv ((pcs n t).take k) ∧ Below w.heap.size w wr ∧ t.extract (k * n) t.size = y ∧ k * n + m = t.size)) (fun sv _ _ => strLen sv)
  case atStart =>
    refine ⟨0, t.size, t, rfl, rfl, ht, Txs.nil _ _, Below.refl _ _, ?_, by omega⟩
    apply ext_list
    rw [ex_list, Nat.zero_mul, List.drop_zero, List.take_of_length_le (by rw [← size_list]; omega)]
  case round =>
    obtain ⟨k, m, y, rfl, hym, hm, HR⟩ := hrel
    have hk : k ≤ 4096 := by
      have h3 := HR.out.2.2.2
      have := Nat.le_mul_of_pos_right k h1
      omega
    have HSZ : Hid (w.heap.size ≤ wr.heap.size) := HR.out.2.1.size
    have HL : Hid (((pcs n t).take k).length ≤ 4096) := by show _ ≤ _; rw [List.length_take]; omega
    by_cases hlt : ¬ n ≤ m
    · have e1 : decide (n ≤ m) = false := decide_eq_false hlt
      have hmn : m < n := by omega
      have HE : Hid ((pcs n t).take k ++ [y] = pcs n t) := split_end h1 HR.out.2.2.1 HR.out.2.2.2 (by omega)
      clear hlt hk
      go_wp2_with
        (at_builtin
         refine wpList_txt _ rfl _ _ rfl w.heap.size _ _ rfl (World.ownsRow.alloc HR.out.1 _) _ [y] rfl (rts_laid wr [y] (by simp)) (by have := HL.out; simp only [List.length_cons, List.length_nil]; omega) (by have := HSZ.out; simp; omega) ?_
         intro v' w' q1 q3
         have t1 : Hid (Txs w' w.heap.size v' ((pcs n t).take k ++ [y])) := q1
         have t2 : Hid (Below w.heap.size w w') := (HR.out.2.1.alloc HSZ.out _).trans q3
         clear q1 q3)
      go_wp2
      go_ret2
      rw [HE.out] at t1
      exact ⟨_, rfl, t1.out, t2.out⟩
    · have hle : n ≤ m := Classical.not_not.1 hlt
      have e1 : decide (n ≤ m) = true := decide_eq_true hle
      obtain ⟨s1, s2, s3, s4⟩ := split_step h1 HR.out.2.2.1 HR.out.2.2.2 hle
      obtain ⟨x, hx⟩ : ∃ x, y.extract 0 n = x := ⟨_, rfl⟩
      obtain ⟨y2, hy2⟩ : ∃ y2, y.extract n m = y2 := ⟨_, rfl⟩
      have HE : Hid ((pcs n t).take k ++ [x] = (pcs n t).take (k + 1) ∧ t.extract ((k + 1) * n) t.size = y2 ∧ (k + 1) * n + (m - n) = t.size ∧ y2.size = m - n) := by rw [← hx, ← hy2]; exact ⟨s1, s2, s3, s4⟩
      clear hlt hk s1 s2 s3 s4
      go_wp2_with
        (at_builtin
         refine wpList_txt _ rfl _ _ rfl w.heap.size _ _ rfl (World.ownsRow.alloc HR.out.1 _) _ [x] rfl (rts_laid wr [x] (by simp)) (by have := HL.out; simp only [List.length_cons, List.length_nil]; omega) (by have := HSZ.out; simp; omega) ?_
         intro v' w' q1 q3
         have t1 : Hid (Txs w' w.heap.size v' ((pcs n t).take k ++ [x])) := q1
         have t2 : Hid (Below w.heap.size w w') := (HR.out.2.1.alloc HSZ.out _).trans q3
         clear q1 q3)
      rw [HE.out.1] at t1
      go_wp2
      go_roundw
      case rel => exact ⟨k + 1, m - n, y2, rfl, HE.out.2.2.2, by omega, t1.out, t2.out, HE.out.2.1, HE.out.2.2.1⟩
      case measure => have := HE.out.2.2.2; simp [strLen]; omega
set_option maxHeartbeats 1000000 in
theorem split_any (z : Int) (t : ByteArray) (w : World) (ht : t.size ≤ maxLen) :
    Calls Try.prog 16 #[.string t, .int .i64 z] w fun e w' => ∃ v, e = .returned (.tuple #[v, .int .i64 (spC z t)]) ∧ Txs w' w.heap.size v (spP z t) ∧ Below w.heap.size w w' := by
  unfold maxLen at ht
  have HSZ : Hid (∀ u, Calls Try.prog 31 #[.int .i64 z] u fun e w' => e = .returned (.bool (sizB z)) ∧ u = w') := fun u => isSize_any z u
  cases hb : sizB z with
  | false =>
    rw [hb] at HSZ
    have e1 : spC z t = 1 := by unfold spC; rw [if_pos hb]
    have e2 : spP z t = [] := by unfold spP; rw [e1, if_neg (by decide)]
    rw [e1, e2]
    clear e1 e2 hb
    go_enter Try.func16, Try.ntmps16
    go_wp2_with fail
    refine (HSZ.out _).mono ?_
    rintro e u ⟨rfl, rfl⟩
    clear HSZ
    go_wp2
    go_ret2
    exact ⟨_, rfl, Txs.nil _ _, Below.refl _ _⟩
  | true =>
    by_cases hl : 4096 < t.size
    · rw [hb] at HSZ
      have e1 : spC z t = 2 := by unfold spC; rw [hb, if_neg (by decide), if_pos hl]
      have e2 : spP z t = [] := by unfold spP; rw [e1, if_neg (by decide)]
      rw [e1, e2]
      clear e1 e2 hb
      have e3 : decide ((t.size : Int) > 4096) = true := by rw [decide_eq_true_eq]; omega
      clear hl
      go_enter Try.func16, Try.ntmps16
      go_wp2_with fail
      refine (HSZ.out _).mono ?_
      rintro e u ⟨rfl, rfl⟩
      clear HSZ
      go_wp2
      go_ret2
      exact ⟨_, rfl, Txs.nil _ _, Below.refl _ _⟩
    · have e1 : spC z t = 0 := by unfold spC; rw [hb, if_neg (by decide), if_neg hl]
      have e2 : spP z t = pcs z.toNat t := by unfold spP; rw [if_pos e1]
      rw [e1, e2]
      obtain ⟨h1, h2⟩ := (siz_iff z).1 hb
      have := split_ok z.toNat t w (by omega) (by omega) (by omega)
      rwa [Int.toNat_of_nonneg (by omega)] at this
set_option maxHeartbeats 1000000 in
theorem joinS_any (z : Int) (v : Value) (l : List ByteArray) (w : World) (h : Rts w v l) (hn : l.length ≤ 8796093022207) :
    Calls Try.prog 18 #[v, .int .i64 z] w fun e w' => e = .returned (.tuple #[.string (joT z l), .int .i64 (joC z l)]) ∧ Below w.heap.size w w' := by
  have HSZ : Hid (∀ u, Calls Try.prog 31 #[.int .i64 z] u fun e w' => e = .returned (.bool (sizB z)) ∧ u = w') := fun u => isSize_any z u
  have HTO : Hid (Calls Try.prog 32 #[v] w fun e w' => e = .returned (.int .i64 (wrap64 (sizes l : Int))) ∧ w = w') := total_any v l w h
  have hF := h.form
  obtain ⟨a, c, rfl, hlc, hcm⟩ := hF
  unfold maxLen at hcm
  have HLN : Hid (l.length ≤ 8796093022207) := hn
  have HV : Hid (Rts w (.slice a l.length c) l) := h
  cases hb : sizB z with
  | false =>
    rw [hb] at HSZ
    have e1 : joC z l = 1 := by unfold joC; rw [if_pos hb]
    have e2 : joT z l = ⟨#[]⟩ := by unfold joT; rw [e1, if_neg (by decide)]
    rw [e1, e2]
    generalize l.length = n at *
    clear e1 e2 hb HTO h HV
    go_enter Try.func18, Try.ntmps18
    go_wp2_with fail
    refine (HSZ.out _).mono ?_
    rintro e u ⟨rfl, rfl⟩
    clear HSZ
    go_wp2
    go_ret2
    exact ⟨rfl, Below.refl _ _⟩
  | true =>
    obtain ⟨h1, h2⟩ := (siz_iff z).1 hb
    obtain ⟨s, rfl⟩ : ∃ s : Nat, z = (s : Int) := ⟨z.toNat, by omega⟩
    rw [hb] at HSZ
    have hjC : joC (s : Int) l = if 4096 < wrap64 (sizes l : Int) then 2 else if rowB s l = false then 4 else 0 := by unfold joC; rw [hb, if_neg (by decide), Int.toNat_natCast]
    by_cases hl : 4096 < wrap64 (sizes l : Int)
    · have e1 : joC (s : Int) l = 2 := by rw [hjC, if_pos hl]
      have e2 : joT (s : Int) l = ⟨#[]⟩ := by unfold joT; rw [e1, if_neg (by decide)]
      rw [e1, e2]
      have e3 : decide (wrap64 (sizes l : Int) > 4096) = true := by rw [decide_eq_true_eq]; exact hl
      generalize wrap64 (sizes l : Int) = q at *
      generalize l.length = n at *
      clear e1 e2 hb h HV hjC hl
      go_enter Try.func18, Try.ntmps18
      go_wp2_with fail
      refine (HSZ.out _).mono ?_
      rintro e u ⟨rfl, rfl⟩
      go_wp2_with fail
      refine HTO.out.mono ?_
      rintro e u ⟨rfl, rfl⟩
      clear HSZ HTO
      go_wp2
      go_ret2
      exact ⟨rfl, Below.refl _ _⟩
    have e3 : decide (wrap64 (sizes l : Int) > 4096) = false := by rw [decide_eq_false_iff_not]; exact hl
    rw [if_neg hl] at hjC
    have HRO : Hid (Calls Try.prog 33 #[.slice a l.length c, .int .i64 (s : Int)] w fun e w' => e = .returned (.bool (rowB s l)) ∧ w = w') := isRow_any _ l s w h
    cases hr : rowB s l with
    | false =>
      have e1 : joC (s : Int) l = 4 := by rw [hjC, if_pos hr]
      have e2 : joT (s : Int) l = ⟨#[]⟩ := by unfold joT; rw [e1, if_neg (by decide)]
      rw [e1, e2]
      rw [hr] at HRO
      generalize wrap64 (sizes l : Int) = q at *
      generalize l.length = n at *
      clear e1 e2 hb h HV hjC hl hr
      go_enter Try.func18, Try.ntmps18
      go_wp2_with fail
      refine (HSZ.out _).mono ?_
      rintro e u ⟨rfl, rfl⟩
      go_wp2_with fail
      refine HTO.out.mono ?_
      rintro e u ⟨rfl, rfl⟩
      go_wp2_with fail
      refine HRO.out.mono ?_
      rintro e u ⟨rfl, rfl⟩
      clear HSZ HTO HRO
      go_wp2
      go_ret2
      exact ⟨rfl, Below.refl _ _⟩
    | true =>
      have e1 : joC (s : Int) l = 0 := by rw [hjC, hr, if_neg (by decide)]
      have e2 : joT (s : Int) l = cat l := by unfold joT; rw [if_pos e1]
      rw [e1, e2]
      rw [hr] at HRO
      have hq := row_sizes l hr
      have hsz : sizes l ≤ 140737488355328 := by
        have h3 : s * l.length ≤ 64 * l.length := Nat.mul_le_mul_right _ (by omega)
        have h4 : sizes l ≤ 64 * 8796093022207 := by omega
        have h5 : wrap64 (sizes l : Int) = (sizes l : Int) := by unfold wrap64; omega
        rw [h5] at hl
        omega
      have HJ : Hid (Calls Try.prog 34 #[.slice a l.length c, .string ⟨#[]⟩] w fun e w' => e = .returned (.string (cat l)) ∧ Below w.heap.size w w') := join_any _ l w h hsz (by omega)
      generalize wrap64 (sizes l : Int) = q at *
      generalize cat l = g at *
      generalize l.length = n at *
      clear e1 e2 hb h HV hjC hl hr hq hsz
      go_enter Try.func18, Try.ntmps18
      go_wp2_with fail
      refine (HSZ.out _).mono ?_
      rintro e u ⟨rfl, rfl⟩
      go_wp2_with fail
      refine HTO.out.mono ?_
      rintro e u ⟨rfl, rfl⟩
      go_wp2_with fail
      refine HRO.out.mono ?_
      rintro e u ⟨rfl, rfl⟩
      go_wp2_with fail
      refine HJ.out.mono ?_
      rintro e u ⟨rfl, hb⟩
      have HB : Hid (Below w.heap.size w u) := hb
      clear HSZ HTO HRO HJ hb
      go_wp2
      go_ret2
      exact ⟨rfl, HB.out⟩
end Go.Proofs.Ytgnffifohdgekaa.strike
