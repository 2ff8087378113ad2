/- budget: what slices' rotate and insertionSort do to a row of numbers. -/
import Derived.Test.YtcenaleladjakabBudG
namespace Go.Proofs.Ytcenaleladjakab.budget
open Go Go.RowKit
set_option linter.unusedVariables false
set_option linter.unusedSimpArgs false
set_option maxRecDepth 100000

set_option maxHeartbeats 2000000 in
theorem rotate_any (g : Nat) (A U V B : List Int) (n a m b : Nat) (f : Value) (w : World) (hw : w.heap[g]? = some (bv 3 (ivs (A ++ (U ++ (V ++ B)))))) (hU : 1 ≤ U.length) (hV : 1 ≤ V.length) (ha : A.length = a) (hm : a + U.length = m) (hb : m + V.length = b) (hn : (A ++ (U ++ (V ++ B))).length = n) (hn2 : n ≤ 1000) :
    Calls Try.prog 28 #[.slice (some ⟨g, 0, none⟩) n n, .int .i64 (a : Int), .int .i64 (m : Int), .int .i64 (b : Int), f] w fun e u => e = .returned (.tuple #[]) ∧ Sw g w u (A ++ (V ++ (U ++ B))) := by
  obtain ⟨i0, hi0⟩ : ∃ i, U.length = i := ⟨_, rfl⟩
  obtain ⟨j0, hj0⟩ : ∃ j, V.length = j := ⟨_, rfl⟩
  have hmn : m ≤ 1000 := by simp at hn; omega
  have hbn : b ≤ 1000 := by simp at hn; omega
  have HW : Hid (∃ A' U' V' B' : List Int, Sw g w w (A' ++ (U' ++ (V' ++ B'))) ∧ A' ++ (V' ++ (U' ++ B')) = A ++ (V ++ (U ++ B)) ∧ U'.length = i0 ∧ V'.length = j0 ∧ A'.length + i0 = m ∧ (A' ++ (U' ++ (V' ++ B'))).length = n) := ⟨A, U, V, B, Sw.refl hw, rfl, hi0, hj0, by omega, hn⟩
  obtain ⟨E, hE⟩ : ∃ E, A ++ (V ++ (U ++ B)) = E := ⟨_, rfl⟩
  rw [hE] at HW ⊢
  have ei : (m : Int) - (a : Int) = (i0 : Int) := by omega
  have ej : (b : Int) - (m : Int) = (j0 : Int) := by omega
  have hi1 : 1 ≤ i0 := by omega
  have hj1 : 1 ≤ j0 := by omega
  have him : i0 ≤ m := by omega
  have hjb : j0 ≤ b := by omega
  have han : a ≤ 1000 := by omega
  clear hw hU hV hn hE hi0 hj0 ha hm hb
  go_enter Try.func28, Try.ntmps28
  go_wp2
  go_loopw [10, 11] (fun iv jv wr => ∃ i j : Nat, 1 ≤ i ∧ 1 ≤ j ∧ i ≤ m ∧ j ≤ 1000 ∧ iv = .int .i64 (i : Int) ∧ jv = .int .i64 (j : Int) ∧ Hid (∃ A' U' V' B' : List Int, Sw g w wr (A' ++ (U' ++ (V' ++ B'))) ∧ A' ++ (V' ++ (U' ++ B')) = E ∧ U'.length = i ∧ V'.length = j ∧ A'.length + i = m ∧ (A' ++ (U' ++ (V' ++ B'))).length = n)) (fun iv jv _ => (intOf iv).toNat + (intOf jv).toNat)
  case atStart => exact ⟨i0, j0, hi1, hj1, him, by omega, by rw [← ei], by rw [← ej], HW.out⟩
  case round =>
    clear HW ei ej hi1 hj1 him hjb
    obtain ⟨i, j, hi, hj, him, hjn, rfl, rfl, HA⟩ := hrel
    obtain ⟨A', U', V', B', hS, hE, hu, hv, hA, hl⟩ := HA.out
    have hl' := hl
    simp at hl'
    have HS : Hid (Sw g w wr (A' ++ (U' ++ (V' ++ B')))) := hS
    have HE : Hid (A' ++ (V' ++ (U' ++ B')) = E) := hE
    have HU : Hid (U'.length = i) := hu
    have HV : Hid (V'.length = j) := hv
    have HL : Hid (A'.length + i = m) := hA
    have HN : Hid ((A' ++ (U' ++ (V' ++ B'))).length = n) := hl
    clear hS hE hl HA
    have s1 : (m : Int) - (i : Int) = ((m - i : Nat) : Int) := by omega
    by_cases hij : i = j
    · have e1 : (((i : Nat) : Int) != ((j : Nat) : Int)) = false := by simp [hij]
      subst hij
      have HC : Hid (Calls Try.prog 29 #[.slice (some ⟨g, 0, none⟩) n n, .int .i64 ((m - i : Nat) : Int), .int .i64 (m : Int), .int .i64 (i : Int), f] wr fun e u => e = .returned (.tuple #[]) ∧ Sw g wr u (A' ++ (V' ++ ([] ++ (U' ++ B'))))) :=
        swapRange_any g A' U' [] V' B' n i (m - i) m f wr (by simpa using HS.out.lies) HU.out HV.out (by have := HL.out; omega) (by have := HL.out; simp; omega) (by simpa using HN.out) hn2
      clear hu hv hA hl'
      go_wp2_with fail
      refine (HC.out).mono ?_
      rintro e u ⟨rfl, hu⟩
      have HR : Hid (Sw g w u E) := by have := HS.out.then hu; show Sw _ _ _ _; rw [← HE.out]; simpa using this
      clear hu HC HS HE HU HV HL HN
      go_wp2
      go_end0
      exact ⟨rfl, HR.out⟩
    have e1 : (((i : Nat) : Int) != ((j : Nat) : Int)) = true := by simp; omega
    by_cases hgt : j < i
    · obtain ⟨U1, U2, rfl, hU1⟩ : ∃ U1 U2, U' = U1 ++ U2 ∧ U1.length = j := ⟨U'.take j, U'.drop j, by simp, by simp; omega⟩
      have hU2 : U2.length = i - j := by simp at hu; omega
      have HC : Hid (Calls Try.prog 29 #[.slice (some ⟨g, 0, none⟩) n n, .int .i64 ((m - i : Nat) : Int), .int .i64 (m : Int), .int .i64 (j : Int), f] wr fun e u => e = .returned (.tuple #[]) ∧ Sw g wr u (A' ++ (V' ++ (U2 ++ (U1 ++ B'))))) :=
        swapRange_any g A' U1 U2 V' B' n j (m - i) m f wr (by simpa using HS.out.lies) hU1 HV.out (by have := HL.out; omega) (by have := HL.out; omega) (by simpa using HN.out) hn2
      have HN2 : Hid (∀ u, Sw g wr u (A' ++ (V' ++ (U2 ++ (U1 ++ B')))) → ∃ A' U' V' B' : List Int, Sw g w u (A' ++ (U' ++ (V' ++ B'))) ∧ A' ++ (V' ++ (U' ++ B')) = E ∧ U'.length = i - j ∧ V'.length = j ∧ A'.length + (i - j) = m ∧ (A' ++ (U' ++ (V' ++ B'))).length = n) := fun u hu =>
        ⟨A' ++ V', U2, U1, B', by have := HS.out.then hu; simpa using this, by rw [← HE.out]; simp, hU2, hU1, by have := HL.out; have := HV.out; simp; omega, by have := HN.out; simp at this; simp; omega⟩
      clear hu hv hA hU1 hU2 HS HE HU HV HL HN hl' hij
      have s2 : (i : Int) - (j : Int) = ((i - j : Nat) : Int) := by omega
      go_wp2_with fail
      refine (HC.out).mono ?_
      rintro e u ⟨rfl, hu⟩
      have HR := HN2.out u hu
      have HR2 : Hid (∃ A' U' V' B' : List Int, Sw g w u (A' ++ (U' ++ (V' ++ B'))) ∧ A' ++ (V' ++ (U' ++ B')) = E ∧ U'.length = i - j ∧ V'.length = j ∧ A'.length + (i - j) = m ∧ (A' ++ (U' ++ (V' ++ B'))).length = n) := HR
      clear hu HC HN2 HR
      go_wp2
      go_roundw
      case rel => exact ⟨i - j, j, by omega, hj, by omega, hjn, by rw [← s2], rfl, HR2.out⟩
      case measure => simp [intOf]; omega
    · have hlt : i < j := by omega
      obtain ⟨V1, V2, rfl, hV1⟩ : ∃ V1 V2, V' = V1 ++ V2 ∧ V1.length = j - i := ⟨V'.take (j - i), V'.drop (j - i), by simp, by simp; omega⟩
      have hV2 : V2.length = i := by simp at hv; omega
      have HC : Hid (Calls Try.prog 29 #[.slice (some ⟨g, 0, none⟩) n n, .int .i64 ((m - i : Nat) : Int), .int .i64 ((m + j - i : Nat) : Int), .int .i64 (i : Int), f] wr fun e u => e = .returned (.tuple #[]) ∧ Sw g wr u (A' ++ (V2 ++ (V1 ++ (U' ++ B'))))) :=
        swapRange_any g A' U' V1 V2 B' n i (m - i) (m + j - i) f wr (by simpa using HS.out.lies) HU.out hV2 (by have := HL.out; omega) (by have := HL.out; omega) (by simpa using HN.out) hn2
      have HN2 : Hid (∀ u, Sw g wr u (A' ++ (V2 ++ (V1 ++ (U' ++ B')))) → ∃ A' U' V' B' : List Int, Sw g w u (A' ++ (U' ++ (V' ++ B'))) ∧ A' ++ (V' ++ (U' ++ B')) = E ∧ U'.length = i ∧ V'.length = j - i ∧ A'.length + i = m ∧ (A' ++ (U' ++ (V' ++ B'))).length = n) := fun u hu =>
        ⟨A', V2, V1, U' ++ B', by have := HS.out.then hu; simpa using this, by rw [← HE.out]; simp, hV2, hV1, by have := HL.out; omega, by have h1 := HN.out; have := HU.out; simp at h1; simp; omega⟩
      clear hu hv hA hV1 hV2 HS HE HU HV HL HN hl' hij hgt
      have s2 : (m : Int) + (j : Int) - (i : Int) = ((m + j - i : Nat) : Int) := by omega
      have s3 : (j : Int) - (i : Int) = ((j - i : Nat) : Int) := by omega
      go_wp2_with fail
      refine (HC.out).mono ?_
      rintro e u ⟨rfl, hu⟩
      have HR := HN2.out u hu
      have HR2 : Hid (∃ A' U' V' B' : List Int, Sw g w u (A' ++ (U' ++ (V' ++ B'))) ∧ A' ++ (V' ++ (U' ++ B')) = E ∧ U'.length = i ∧ V'.length = j - i ∧ A'.length + i = m ∧ (A' ++ (U' ++ (V' ++ B'))).length = n) := HR
      clear hu HC HN2 HR
      go_wp2
      go_roundw
      case rel => exact ⟨i, j - i, hi, by omega, him, by omega, rfl, by rw [← s3], HR2.out⟩
      case measure => simp [intOf]; omega
/-- a comparison of numbers by a key, that only reads -/
abbrev Cmp (g X : Nat) (N : Int) (K : Int → Int) (w : World) : Prop := ∀ u, Chg g w u → ∀ x y : Int, (0 ≤ x ∧ x < N) → (0 ≤ y ∧ y < N) → Calls Try.prog 21 #[.int .i64 x, .int .i64 y, .pointer (some ⟨X, 0, none⟩)] u fun e u' => e = .returned (.int .i64 (K x - K y)) ∧ u' = u.drew
theorem Cmp.on {g X : Nat} {N : Int} {K : Int → Int} {w u : World} (h : Cmp g X N K w) (hc : Chg g w u) : Cmp g X N K u := fun v hv => h v (hc.trans hv)
abbrev cmpF (X : Nat) : Value := .func (.func 21) #[] #[.pointer (some ⟨X, 0, none⟩)]
/-- inner loop of the insertion: x goes in front of M2 -/
structure Ins (K : Int → Int) (A M1 M2 : List Int) (x : Int) (R l : List Int) (M : List Int) : Prop where
  row : l = A ++ (M1 ++ (x :: (M2 ++ R)))
  cut : M = M1 ++ M2
  gt : ∀ y ∈ M2, lt K x y
theorem Ins.swap {K : Int → Int} {A M1 M2 R l M : List Int} {x z : Int} (h : Ins K A (M1 ++ [z]) M2 x R l M) (hz : lt K x z) {i : Nat} (hi : i = A.length + M1.length) : Ins K A M1 (z :: M2) x R (sw l i (i + 1)) M := by
  refine ⟨?_, by rw [h.cut]; simp, fun y hy => ?_⟩
  · rw [h.row]
    have := sw_adj (A ++ M1) (M2 ++ R) z x (i := i) (by simp; omega)
    simpa using this
  · rcases List.mem_cons.1 hy with rfl | q
    · exact hz
    · exact h.gt y q
theorem Ins.stop {K : Int → Int} {A M1 M2 R l M : List Int} {x : Int} (h : Ins K A M1 M2 x R l M) (hs : Srt K M) (hl : ∀ y ∈ M1, lt K y x) : l = A ++ ((M1 ++ x :: M2) ++ R) ∧ Srt K (M1 ++ x :: M2) ∧ (M1 ++ x :: M2).Perm (M ++ [x]) := by
  refine ⟨by rw [h.row]; simp, Srt.ins (by rw [← h.cut]; exact hs) hl h.gt, ?_⟩
  rw [h.cut]
  refine (List.perm_middle).trans ?_
  exact (List.perm_append_comm (l₁ := [x])).trans (by simp)
theorem srt_snoc {K : Int → Int} {M1 : List Int} {z x : Int} (h : Srt K (M1 ++ [z])) (hz : lt K z x) : ∀ y ∈ M1 ++ [z], lt K y x := fun y hy => by
  rcases List.mem_append.1 hy with q | q
  · exact lt_trans ((List.pairwise_append.1 h).2.2 y q z (by simp)) hz
  · rw [List.mem_singleton.1 q]; exact hz
/-- outer loop of the insertion -/
structure Out (K : Int → Int) (g : Nat) (w u : World) (A L B : List Int) (k : Nat) (M : List Int) : Prop where
  row : Sw g w u (A ++ (M ++ (L.drop k ++ B)))
  perm : M.Perm (L.take k)
  srt : Srt K M
set_option maxHeartbeats 4000000 in
theorem insertion_any (g X : Nat) (N : Int) (K : Int → Int) (A L B : List Int) (n a b : Nat) (w : World) (hw : w.heap[g]? = some (bv 3 (ivs (A ++ (L ++ B))))) (ha : A.length = a) (hb : a + L.length = b) (hn : (A ++ (L ++ B)).length = n) (hn2 : n ≤ 1000) (hL : L.Pairwise (· < ·)) (hr : ∀ x ∈ L, 0 ≤ x ∧ x < N) (hC : Cmp g X N K w) :
    Calls Try.prog 26 #[.slice (some ⟨g, 0, none⟩) n n, .int .i64 (a : Int), .int .i64 (b : Int), cmpF X] w fun e u => e = .returned (.tuple #[]) ∧ ∃ M, Sw g w u (A ++ (M ++ B)) ∧ M.Perm L ∧ Srt K M := by
  have hbn : b ≤ n := by rw [← hn]; simp; omega
  have hab : a ≤ b := by omega
  have HC : Hid (Cmp g X N K w) := hC
  have HW : Hid (Out K g w w A L B 1 (L.take 1)) := ⟨by have := Sw.refl hw; rw [← List.append_assoc (L.take 1), List.take_append_drop]; exact this, List.Perm.refl _, by cases L with | nil => exact List.Pairwise.nil | cons x r => simp; exact List.pairwise_singleton ..⟩
  have HF : Hid (∀ (u : World) (k : Nat) (M : List Int), ¬ a + k < b → Out K g w u A L B k M → ∃ M, Sw g w u (A ++ (M ++ B)) ∧ M.Perm L ∧ Srt K M) := fun u k M hk h => ⟨M, by have := h.row; rw [List.drop_eq_nil_of_le (by omega)] at this; simpa using this, by have := h.perm; rw [List.take_of_length_le (by omega)] at this; exact this, h.srt⟩
  have HI : Hid (∀ (u : World) (k : Nat) (M : List Int), a + k < b → Out K g w u A L B k M → ∃ x l, Ins K A M [] x (L.drop (k + 1) ++ B) l M ∧ Sw g w u l ∧ l.length = n ∧ M.length = k ∧ x ∈ L ∧ (∀ y ∈ M, y ∈ L ∧ y < x) ∧ L.take (k + 1) = L.take k ++ [x]) := fun u k M hk h => by
    have hkL : k < L.length := by omega
    refine ⟨L.getD k 0, _, ⟨rfl, by simp, fun y hy => by simp at hy⟩, ?_, ?_, ?_, ?_, ?_, take_snoc hkL⟩
    · have := h.row
      rw [drop_cons hkL] at this
      simpa using this
    · have := h.perm.length_eq
      rw [← hn]
      simp at this ⊢
      omega
    · rw [h.perm.length_eq]; simp; omega
    · rw [getD_at hkL]; exact List.getElem_mem hkL
    · intro y hy
      have hy' := h.perm.mem_iff.1 hy
      obtain ⟨t, ht, rfl⟩ := List.mem_iff_getElem.1 hy'
      rw [List.getElem_take, getD_at hkL]
      simp at ht
      exact ⟨List.getElem_mem _, List.pairwise_iff_getElem.1 hL t k (by omega) hkL (by omega)⟩
  have HO : Hid (∀ (u : World) (k : Nat) (M M1 M2 l : List Int) (x : Int), Ins K A M1 M2 x (L.drop (k + 1) ++ B) l M → Sw g w u l → (∀ y ∈ M1, lt K y x) → Srt K M → M.Perm (L.take k) → L.take (k + 1) = L.take k ++ [x] → ∃ M, Out K g w u A L B (k + 1) M) := fun u k M M1 M2 l x h1 h2 h3 h4 h5 h6 => by
    obtain ⟨q1, q2, q3⟩ := h1.stop h4 h3
    refine ⟨_, ⟨by rw [q1] at h2; exact h2, ?_, q2⟩⟩
    rw [h6]
    exact q3.trans (h5.append_right _)
  have HR : Hid (∀ x ∈ L, 0 ≤ x ∧ x < N) := hr
  have HA' : Hid (A.length = a) := ha
  clear hw ha hb hn hL hr hC
  go_enter Try.func26, Try.ntmps26
  go_wp2
  go_loopw [8] (fun iv wr => ∃ k : Nat, 1 ≤ k ∧ a + k ≤ 1001 ∧ iv = .int .i64 ((a + k : Nat) : Int) ∧ Hid (∃ M, Out K g w wr A L B k M)) (fun iv _ => b - (intOf iv).toNat)
  case atStart => exact ⟨1, by omega, by omega, by go_num, _, HW.out⟩
  case round =>
    clear HW
    obtain ⟨k, hk, hk2, rfl, HM⟩ := hrel
    obtain ⟨M, hM⟩ := HM.out
    have HO1 : Hid (Out K g w wr A L B k M) := hM
    clear hM HM
    by_cases hlt : ¬ a + k < b
    · have HQ : Hid (∃ M, Sw g w wr (A ++ (M ++ B)) ∧ M.Perm L ∧ Srt K M) := HF.out wr k M hlt HO1.out
      have e1 : decide (((a + k : Nat) : Int) < (b : Int)) = false := decide_eq_false (by omega)
      clear HF HI HO HR HA' HO1 HC
      go_wp2
      go_end0
      exact ⟨rfl, HQ.out⟩
    have hlt : a + k < b := by omega
    obtain ⟨x, l0, h1, h2, h3, h4, h5, h6, h7⟩ := HI.out wr k M hlt HO1.out
    have HX : Hid (x ∈ L ∧ (∀ y ∈ M, y ∈ L ∧ y < x) ∧ L.take (k + 1) = L.take k ++ [x] ∧ Srt K M ∧ M.Perm (L.take k)) := ⟨h5, h6, h7, HO1.out.srt, HO1.out.perm⟩
    have HI0 : Hid (∃ M1 M2 l, Ins K A M1 M2 x (L.drop (k + 1) ++ B) l M ∧ Sw g w wr l ∧ l.length = n ∧ M1.length = k) := ⟨M, [], l0, h1, h2, h3, h4⟩
    clear h1 h2 h3 h4 h5 h6 h7 HI HO1 HF
    obtain ⟨i1, hi1⟩ : ∃ i1, a + k = i1 := ⟨_, rfl⟩
    rw [hi1] at hlt ⊢
    go_wp2
    go_loopw [9] (fun jv wr => ∃ j : Nat, j ≤ k ∧ jv = .int .i64 ((a + j : Nat) : Int) ∧ Hid (∃ M1 M2 l, Ins K A M1 M2 x (L.drop (k + 1) ++ B) l M ∧ Sw g w wr l ∧ l.length = n ∧ M1.length = j)) (fun jv _ => (intOf jv).toNat)
    case atStart => exact ⟨k, by omega, by rw [hi1], HI0.out⟩
    case round =>
      clear HI0
      obtain ⟨j, hj, rfl, HM⟩ := hrel
      obtain ⟨M1, M2, l, hI, hS, hl, hj1⟩ := HM.out
      clear HM
      have HS : Hid (Sw g w wr l) := hS
      have HI1 : Hid (Ins K A M1 M2 x (L.drop (k + 1) ++ B) l M) := hI
      have HJ : Hid (M1.length = j) := hj1
      have HLn : Hid (l.length = n) := hl
      clear hI hS hl hj1
      by_cases h0 : j = 0
      · subst h0
        have HQ : Hid (∃ M, Out K g w wr.drew A L B (k + 1) M) := HO.out wr.drew k M M1 M2 l x HI1.out HS.out.drew (by rw [List.eq_nil_of_length_eq_zero HJ.out]; simp) HX.out.2.2.2.1 HX.out.2.2.2.2 HX.out.2.2.1
        clear HS HI1 HJ HLn HX HO HC HR HA'
        go_upto_region 4 with (fail)
        refine wp_abs (fun a0 => a0.tmps.size = 53 ∧ (∀ h, a0.tmps[1]'h = .int .i64 (a : Int)) ∧ (∀ h, a0.tmps[9]'h = .int .i64 ((a + 0 : Nat) : Int))) ⟨rfl, fun _ => rfl, fun _ => rfl⟩ ?_
        rintro a0 ⟨hsz, s1, s9⟩ ha0
        refine wp_region_held (S := fun W => True) (by kernel_rfl) ?_
        have hS0 : True := trivial
        refine h_take (i := 0) (.int .i64 ((a + 0 : Nat) : Int)) rfl (by kernel_rfl) (by kernel_rfl) (by kernel_rfl) (fun _ _ _ h => h) rfl hS0 (fun W hW => by simp [execOp, go_sem, Act.put, hsz, s1, s9]) ?_
        refine h_take (i := 1) (.int .i64 (a : Int)) rfl (by kernel_rfl) (by kernel_rfl) (by kernel_rfl) (fun _ _ _ h => h) rfl hS0 (fun W hW => by simp [execOp, go_sem, Act.put, hsz, s1, s9]) ?_
        refine h_take (i := 2) (.bool false) rfl (by kernel_rfl) (by kernel_rfl) (by kernel_rfl) (fun _ _ _ h => h) rfl hS0 (fun W hW => by simp [execOp, go_sem, Act.put, hsz, s1, s9]) ?_
        refine h_take (i := 3) (.bool false) rfl (by kernel_rfl) (by kernel_rfl) (by kernel_rfl) (fun _ _ _ h => h) rfl hS0 (fun W hW => by simp [execOp, go_sem, Act.put, hsz, s1, s9]) ?_
        refine g_pass (i := 4) rfl (by kernel_rfl) (by kernel_rfl) (by kernel_rfl) (fun _ _ _ h => h) (by simp [Region.wanted, yielded, Act.put, hsz]) hS0 ?_
        refine g_pass (i := 5) rfl (by kernel_rfl) (by kernel_rfl) (by kernel_rfl) (fun _ _ _ h => h) (by simp [Region.wanted, yielded, Act.put, hsz]) hS0 ?_
        refine g_pass (i := 6) rfl (by kernel_rfl) (by kernel_rfl) (by kernel_rfl) (fun _ _ _ h => h) (by simp [Region.wanted, yielded, Act.put, hsz]) hS0 ?_
        refine g_pass (i := 7) rfl (by kernel_rfl) (by kernel_rfl) (by kernel_rfl) (fun _ _ _ h => h) (by simp [Region.wanted, yielded, Act.put, hsz]) hS0 ?_
        refine g_pass (i := 8) rfl (by kernel_rfl) (by kernel_rfl) (by kernel_rfl) (fun _ _ _ h => h) (by simp [Region.wanted, yielded, Act.put, hsz]) hS0 ?_
        refine g_pass (i := 9) rfl (by kernel_rfl) (by kernel_rfl) (by kernel_rfl) (fun _ _ _ h => h) (by simp [Region.wanted, yielded, Act.put, hsz]) hS0 ?_
        refine g_pass (i := 10) rfl (by kernel_rfl) (by kernel_rfl) (by kernel_rfl) (fun _ _ _ h => h) (by simp [Region.wanted, yielded, Act.put, hsz]) hS0 ?_
        refine g_pass (i := 11) rfl (by kernel_rfl) (by kernel_rfl) (by kernel_rfl) (fun _ _ _ h => h) (by simp [Region.wanted, yielded, Act.put, hsz]) hS0 ?_
        refine g_pass (i := 12) rfl (by kernel_rfl) (by kernel_rfl) (by kernel_rfl) (fun _ _ _ h => h) (by simp [Region.wanted, yielded, Act.put, hsz]) hS0 ?_
        refine g_pass (i := 13) rfl (by kernel_rfl) (by kernel_rfl) (by kernel_rfl) (fun _ _ _ h => h) (by simp [Region.wanted, yielded, Act.put, hsz]) hS0 ?_
        refine g_pass (i := 14) rfl (by kernel_rfl) (by kernel_rfl) (by kernel_rfl) (fun _ _ _ h => h) (by simp [Region.wanted, yielded, Act.put, hsz]) hS0 ?_
        refine g_pass (i := 15) rfl (by kernel_rfl) (by kernel_rfl) (by kernel_rfl) (fun _ _ _ h => h) (by simp [Region.wanted, yielded, Act.put, hsz]) hS0 ?_
        refine h_take (i := 16) (.bool false) rfl (by kernel_rfl) (by kernel_rfl) (by kernel_rfl) (fun _ _ _ h => h) rfl hS0 (fun W hW => by simp [execOp, go_sem, Act.put, hsz, s1, s9]) ?_
        refine wpAnyH_done (by kernel_rfl) ?_ _
        subst ha0
        clear hsz s1 s9 hS0
        go_simp
        go_wp2
        go_roundw
        case rel => exact ⟨k + 1, by omega, by omega, by rw [← Nat.add_assoc, hi1]; go_num, HQ.out⟩
        case measure => simp [intOf]; omega
      · obtain ⟨M1', z, rfl⟩ : ∃ M1' z, M1 = M1' ++ [z] := by
          rcases List.eq_nil_or_concat M1 with q | ⟨q1, q2, q3⟩
          · exact absurd (by rw [← HJ.out, q]; rfl) h0
          · exact ⟨q1, q2, by rw [q3, List.concat_eq_append]⟩
        have hj1 : M1'.length = j - 1 := by have := HJ.out; simp at this; omega
        have hzx : z ∈ L ∧ z < x := HX.out.2.1 z (by rw [HI1.out.cut]; simp)
        have hrow : l = (A ++ M1') ++ (z :: x :: (M2 ++ (L.drop (k + 1) ++ B))) := by rw [HI1.out.row]; simp
        have hA := HA'.out
        have hd1 : l.getD (a + j - 1) 0 = z := by
          have := at_app (A ++ M1') (z :: x :: (M2 ++ (L.drop (k + 1) ++ B))) 0
          rw [← hrow, show (A ++ M1').length + 0 = a + j - 1 by simp; omega] at this
          exact this
        have hd2 : l.getD (a + j) 0 = x := by
          have := at_app (A ++ M1') (z :: x :: (M2 ++ (L.drop (k + 1) ++ B))) 1
          rw [← hrow, show (A ++ M1').length + 1 = a + j by simp; omega] at this
          exact this
        have hc1 : ∀ u, Sw g w u l → u.cell? ⟨g, a + j - 1, none⟩ = some (.int .i64 z) := fun u h => by rw [← hd1]; exact h.cell (by rw [HLn.out]; omega)
        have hc2 : ∀ u, Sw g w u l → u.cell? ⟨g, a + j, none⟩ = some (.int .i64 x) := fun u h => by rw [← hd2]; exact h.cell (by rw [HLn.out]; omega)
        have HC1 : Hid (∀ u, Sw g w u l → u.cell? ⟨g, a + j - 1, none⟩ = some (.int .i64 z)) := hc1
        have HC2 : Hid (∀ u, Sw g w u l → u.cell? ⟨g, a + j, none⟩ = some (.int .i64 x)) := hc2
        have HCL : Hid (∀ u, Sw g w u l → Calls Try.prog 21 #[.int .i64 x, .int .i64 z, .pointer (some ⟨X, 0, none⟩)] u fun e u' => e = .returned (.int .i64 (K x - K z)) ∧ u' = u.drew) := fun u h => HC.out u h.chg x z (HR.out x HX.out.1) (HR.out z hzx.1)
        have HQ : Hid (¬ K x - K z < 0 → ∀ u, Sw g w u l → ∃ M, Out K g w u A L B (k + 1) M) := fun hk u hu => HO.out u k M (M1' ++ [z]) M2 l x HI1.out hu (srt_snoc (by have := HX.out.2.2.2.1; rw [HI1.out.cut] at this; exact (List.pairwise_append.1 this).1) (lt_not hzx.2 (by omega))) HX.out.2.2.2.1 HX.out.2.2.2.2 HX.out.2.2.1
        have HG : Hid (K x - K z < 0 → ∀ u, Sw g w u l → ∃ M1 M2 l, Ins K A M1 M2 x (L.drop (k + 1) ++ B) l M ∧ Sw g w ((u.drew.setCell ⟨g, a + j, none⟩ (.int .i64 z)).setCell ⟨g, a + j - 1, none⟩ (.int .i64 x)) l ∧ l.length = n ∧ M1.length = j - 1) := fun hk u hu => by
          have q1 := HI1.out.swap (lt_of hzx.2 (by omega)) (i := a + j - 1) (by omega)
          rw [show a + j - 1 + 1 = a + j by omega] at q1
          refine ⟨M1', z :: M2, _, q1, ?_, by rw [sw_len]; exact HLn.out, hj1⟩
          have q2 := (hu.drew.set (a + j) z).set (a + j - 1) x
          have q3 := sw_comm (l := l) (i := a + j - 1) (j := a + j) (by omega)
          rw [hd1, hd2] at q3
          rw [q3] at q2
          exact q2
        have hjp : 1 ≤ j := by omega
        have hJ0 : a + j ≤ 1000 := by omega
        have hjn : a + j < n := by omega
        obtain ⟨J, hJ⟩ : ∃ J, a + j = J := ⟨_, rfl⟩
        obtain ⟨I, hI⟩ : ∃ I, a + j - 1 = I := ⟨_, rfl⟩
        rw [hJ] at HC2 HG ⊢
        have hJI : J - 1 = I := by omega
        rw [hI] at HC1
        rw [hJI] at HG
        have s10 : (J : Int) - 1 = (I : Int) := by omega
        have s11 : IntKind.i64.wrap (I : Int) = (I : Int) := by rw [IntKind.wrap_i64]; omega
        have eg : decide ((a : Int) < (J : Int)) = true := decide_eq_true (by omega)
        have eg2 : (a : Int) < (J : Int) := by omega
        have hJn : J < n := by omega
        have hIn : I < n := by omega
        have hS0 := HS.out
        have HS0 : Hid (Sw g w wr.drew l) := hS0.drew
        clear HS HI1 HJ HLn hj1 hzx hrow hA hd1 hd2 hc1 hc2 hS0 HO HR HA' HC
        go_upto_region 4 with (fail)
        refine wp_abs (fun a0 => a0.tmps.size = 53 ∧ (∀ h, a0.tmps[0]'h = .slice (some ⟨g, 0, none⟩) n n) ∧ (∀ h, a0.tmps[1]'h = .int .i64 (a : Int)) ∧ (∀ h, a0.tmps[3]'h = cmpF X) ∧ (∀ h, a0.tmps[9]'h = .int .i64 (J : Int))) ⟨rfl, fun _ => rfl, fun _ => rfl, fun _ => rfl, fun _ => rfl⟩ ?_
        rintro a0 ⟨hsz, s0, s1, s3, s9⟩ ha0
        refine wp_region_held (S := fun W => Sw g w W l) (by kernel_rfl) ?_
        have hS0 : Sw g w wr.drew l := HS0.out
        refine h_take (i := 0) (.int .i64 (J : Int)) rfl (by kernel_rfl) (by kernel_rfl) (by kernel_rfl) (fun _ _ _ h => h) rfl hS0 (fun W hW => by simp [execOp, go_sem, Act.put, hsz, s0, s1, s3, s9, eg, eg2, s10, s11, hJn, hIn]) ?_
        refine h_take (i := 1) (.int .i64 (a : Int)) rfl (by kernel_rfl) (by kernel_rfl) (by kernel_rfl) (fun _ _ _ h => h) rfl hS0 (fun W hW => by simp [execOp, go_sem, Act.put, hsz, s0, s1, s3, s9, eg, eg2, s10, s11, hJn, hIn]) ?_
        refine h_take (i := 2) (.bool true) rfl (by kernel_rfl) (by kernel_rfl) (by kernel_rfl) (fun _ _ _ h => h) rfl hS0 (fun W hW => by simp [execOp, go_sem, Act.put, hsz, s0, s1, s3, s9, eg, eg2, s10, s11, hJn, hIn]) ?_
        refine h_take (i := 3) (.bool true) rfl (by kernel_rfl) (by kernel_rfl) (by kernel_rfl) (fun _ _ _ h => h) rfl hS0 (fun W hW => by simp [execOp, go_sem, Act.put, hsz, s0, s1, s3, s9, eg, eg2, s10, s11, hJn, hIn]) ?_
        refine g_take (i := 4) (cmpF X) rfl (by kernel_rfl) (by kernel_rfl) (by kernel_rfl) (fun _ _ _ h => h) (by simp [Region.wanted, yielded, Act.put, hsz]) hS0 (fun W hW => by simp [execOp, go_sem, Act.put, hsz, s0, s1, s3, s9, eg, eg2, s10, s11, hJn, hIn]) ?_
        refine g_take (i := 5) (.slice (some ⟨g, 0, none⟩) n n) rfl (by kernel_rfl) (by kernel_rfl) (by kernel_rfl) (fun _ _ _ h => h) (by simp [Region.wanted, yielded, Act.put, hsz]) hS0 (fun W hW => by simp [execOp, go_sem, Act.put, hsz, s0, s1, s3, s9, eg, eg2, s10, s11, hJn, hIn]) ?_
        refine g_take (i := 6) (.int .i64 (J : Int)) rfl (by kernel_rfl) (by kernel_rfl) (by kernel_rfl) (fun _ _ _ h => h) (by simp [Region.wanted, yielded, Act.put, hsz]) hS0 (fun W hW => by simp [execOp, go_sem, Act.put, hsz, s0, s1, s3, s9, eg, eg2, s10, s11, hJn, hIn]) ?_
        refine g_take (i := 7) (.pointer (some ⟨g, J, none⟩)) rfl (by kernel_rfl) (by kernel_rfl) (by kernel_rfl) (fun _ _ _ h => h) (by simp [Region.wanted, yielded, Act.put, hsz]) hS0 (fun W hW => by simp [execOp, go_sem, Act.put, hsz, s0, s1, s3, s9, eg, eg2, s10, s11, hJn, hIn]) ?_
        refine g_take (i := 8) (.int .i64 x) rfl (by kernel_rfl) (by kernel_rfl) (by kernel_rfl) (fun _ _ _ h => h) (by simp [Region.wanted, yielded, Act.put, hsz]) hS0 (fun W hW => by simp [execOp, go_sem, Act.put, hsz, s0, s1, s3, s9, eg, eg2, s10, s11, hJn, hIn, HC2.out W hW]) ?_
        refine g_take (i := 9) (.slice (some ⟨g, 0, none⟩) n n) rfl (by kernel_rfl) (by kernel_rfl) (by kernel_rfl) (fun _ _ _ h => h) (by simp [Region.wanted, yielded, Act.put, hsz]) hS0 (fun W hW => by simp [execOp, go_sem, Act.put, hsz, s0, s1, s3, s9, eg, eg2, s10, s11, hJn, hIn]) ?_
        refine g_take (i := 10) (.int .i64 (J : Int)) rfl (by kernel_rfl) (by kernel_rfl) (by kernel_rfl) (fun _ _ _ h => h) (by simp [Region.wanted, yielded, Act.put, hsz]) hS0 (fun W hW => by simp [execOp, go_sem, Act.put, hsz, s0, s1, s3, s9, eg, eg2, s10, s11, hJn, hIn]) ?_
        refine g_take (i := 11) (.int .i64 (I : Int)) rfl (by kernel_rfl) (by kernel_rfl) (by kernel_rfl) (fun _ _ _ h => h) (by simp [Region.wanted, yielded, Act.put, hsz]) hS0 (fun W hW => by simp [execOp, go_sem, Act.put, hsz, s0, s1, s3, s9, eg, eg2, s10, s11, hJn, hIn]) ?_
        refine g_take (i := 12) (.pointer (some ⟨g, I, none⟩)) rfl (by kernel_rfl) (by kernel_rfl) (by kernel_rfl) (fun _ _ _ h => h) (by simp [Region.wanted, yielded, Act.put, hsz]) hS0 (fun W hW => by simp [execOp, go_sem, Act.put, hsz, s0, s1, s3, s9, eg, eg2, s10, s11, hJn, hIn]) ?_
        refine g_take (i := 13) (.int .i64 z) rfl (by kernel_rfl) (by kernel_rfl) (by kernel_rfl) (fun _ _ _ h => h) (by simp [Region.wanted, yielded, Act.put, hsz]) hS0 (fun W hW => by simp [execOp, go_sem, Act.put, hsz, s0, s1, s3, s9, eg, eg2, s10, s11, hJn, hIn, HC1.out W hW]) ?_
        refine g_call (i := 14) 21 #[.int .i64 x, .int .i64 z, .pointer (some ⟨X, 0, none⟩)] rfl (by kernel_rfl) (by simp [Region.wanted, yielded, Act.put, hsz]) (by simp [execOp, go_sem, Act.put, hsz, s0, s1, s3, s9, eg, eg2, s10, s11, hJn, hIn]) ((HCL.out _ hS0).mono ?_)
        rintro e u1 ⟨rfl, rfl⟩
        refine ⟨_, rfl, hS0.drew, ?_⟩
        have hS1 : Sw g w wr.drew.drew l := hS0.drew
        obtain ⟨d, hd⟩ : ∃ d, K x - K z = d := ⟨_, rfl⟩
        rw [hd]
        rw [hd] at HQ HG
        by_cases hneg : ¬ d < 0
        · have en : decide (d < 0) = false := decide_eq_false hneg
          have HT : Hid (∃ M, Out K g w wr.drew.drew A L B (k + 1) M) := HQ.out hneg _ hS1
          refine g_take (i := 15) (.bool false) rfl (by kernel_rfl) (by kernel_rfl) (by kernel_rfl) (fun _ _ _ h => h) (by simp [Region.wanted, yielded, Act.put, hsz]) hS1 (fun W hW => by simp [execOp, go_sem, Act.put, hsz, s0, s1, s3, s9, en]) ?_
          refine h_take (i := 16) (.bool false) rfl (by kernel_rfl) (by kernel_rfl) (by kernel_rfl) (fun _ _ _ h => h) rfl hS1 (fun W hW => by simp [execOp, go_sem, Act.put, hsz, s0, s1, s3, s9, en]) ?_
          refine wpAnyH_done (by kernel_rfl) ?_ _
          subst ha0
          clear hsz s0 s1 s3 s9 hS0 hS1 HS0 HQ HG HCL HC1 HC2 HX
          go_simp
          go_wp2
          go_roundw
          case rel => exact ⟨k + 1, by omega, by omega, by rw [← Nat.add_assoc, hi1]; go_num, HT.out⟩
          case measure => simp [intOf]; omega
        · have hneg : d < 0 := by omega
          have en : decide (d < 0) = true := decide_eq_true hneg
          have HT : Hid (∃ M1 M2 l, Ins K A M1 M2 x (L.drop (k + 1) ++ B) l M ∧ Sw g w ((wr.drew.drew.drew.setCell ⟨g, J, none⟩ (.int .i64 z)).setCell ⟨g, I, none⟩ (.int .i64 x)) l ∧ l.length = n ∧ M1.length = j - 1) := HG.out hneg _ hS1
          have hc1 := HC1.out _ hS1
          have hc2 := HC2.out _ hS1
          have hf1 := hS1.free I
          have hf2 := hS1.free J
          refine g_take (i := 15) (.bool true) rfl (by kernel_rfl) (by kernel_rfl) (by kernel_rfl) (fun _ _ _ h => h) (by simp [Region.wanted, yielded, Act.put, hsz]) hS1 (fun W hW => by simp [execOp, go_sem, Act.put, hsz, s0, s1, s3, s9, en]) ?_
          refine h_take (i := 16) (.bool true) rfl (by kernel_rfl) (by kernel_rfl) (by kernel_rfl) (fun _ _ _ h => h) rfl hS1 (fun W hW => by simp [execOp, go_sem, Act.put, hsz, s0, s1, s3, s9, en]) ?_
          refine wpAnyH_done (by kernel_rfl) ?_ _
          obtain ⟨wd, hwd⟩ : ∃ wd, wr.drew.drew = wd := ⟨_, rfl⟩
          rw [hwd] at HT hc1 hc2 hf1 hf2 ⊢
          subst ha0
          clear hsz s0 s1 s3 s9 hS0 hS1 HS0 HQ HG HCL HC1 HC2 HX hwd
          go_simp
          go_wp2_with fail
          go_region
          go_wp2
          go_roundw
          case rel => exact ⟨j - 1, by omega, by rw [← hI, Nat.add_sub_assoc hjp], HT.out⟩
          case measure => simp [intOf]; omega
end Go.Proofs.Ytcenaleladjakab.budget
