/- route: how a text is split: strings.SplitN and strings.Split at one point. -/
import Derived.Test.YtllfokmpnalojaaDoorRouP
import Derived.Lib.Bytealg
namespace Go.Proofs.YtllfokmpnalojaaDoor.route
open Go Go.RowKit
set_option linter.unusedVariables false
set_option linter.unusedSimpArgs false
set_option maxRecDepth 100000

/-- a slice that reads as these texts -/
def Rts (w : World) (v : Value) (l : List ByteArray) : Prop :=
  ∃ a c, v = .slice a l.length c ∧ l.length ≤ c ∧ c ≤ maxLen ∧ (0 < l.length → ∃ g off, a = some ⟨g, off, none⟩ ∧ g < w.heap.size ∧ ∀ j x, l[j]? = some x → w.cell? ⟨g, off + j, none⟩ = some (.string x))
theorem Rts.nil (w : World) : Rts w (.slice none 0 0) [] := ⟨none, 0, rfl, Nat.le_refl _, Nat.zero_le _, fun h => by simp at h⟩
theorem Rts.below {w u : World} {v : Value} {l : List ByteArray} (h : Rts w v l) (hb : Below w.heap.size w u) : Rts u v l := by
  obtain ⟨a, c, hv, h1, h2, h4⟩ := h
  refine ⟨a, c, hv, h1, h2, fun hn => ?_⟩
  obtain ⟨g, off, ha, hg, hc⟩ := h4 hn
  exact ⟨g, off, ha, Nat.lt_of_lt_of_le hg hb.size, fun j x hx => (hb.cell (p := ⟨g, off + j, none⟩) hg).trans (hc j x hx)⟩
theorem Rts.cell {w : World} {v : Value} {l : List ByteArray} (h : Rts w v l) : ∃ a c, v = .slice a l.length c ∧ l.length ≤ c ∧ c ≤ maxLen ∧
    ∀ j x, l[j]? = some x → ∃ g off, a = some ⟨g, off, none⟩ ∧ w.cell? ⟨g, off + j, none⟩ = some (.string x) := by
  obtain ⟨a, c, hv, h1, h2, h4⟩ := h
  refine ⟨a, c, hv, h1, h2, fun j p hj => ?_⟩
  have hl := (List.getElem?_eq_some_iff.1 hj).1
  obtain ⟨g, off, ha, hg, hc⟩ := h4 (by omega)
  exact ⟨g, off, ha, hc j _ hj⟩
theorem Rts.at {w : World} {a : Option Addr} {n c : Nat} {l : List ByteArray} (h : Rts w (.slice a n c) l) (k : Nat) (x : ByteArray) (hk : l[k]? = some x) : ∃ g off, a = some ⟨g, off, none⟩ ∧ w.cell? ⟨g, off + k, none⟩ = some (.string x) := by
  obtain ⟨a', c', hv, h1, h2, h4⟩ := h
  have hl := (List.getElem?_eq_some_iff.1 hk).1
  obtain ⟨g, off, ha, hg, hc⟩ := h4 (by omega)
  have : a = a' := by injection hv
  exact ⟨g, off, this.trans ha, hc k x hk⟩
theorem Rts.form {w : World} {v : Value} {l : List ByteArray} (h : Rts w v l) : ∃ a c, v = .slice a l.length c ∧ l.length ≤ c ∧ c ≤ maxLen := by
  obtain ⟨a, c, h, h1, h2, _⟩ := h; exact ⟨_, _, h, h1, h2⟩
/-- where the first point is -/
theorem index_cases (l : List UInt8) : (Lib.indexByte l 46 = -1 ∧ (46 : UInt8) ∉ l) ∨ ∃ x r, l = x ++ 46 :: r ∧ (46 : UInt8) ∉ x ∧ Lib.indexByte l 46 = (x.length : Int) := by
  induction l with
  | nil => left; exact ⟨rfl, by simp⟩
  | cons b l ih =>
    by_cases hb : b = 46
    · right
      subst hb
      exact ⟨[], l, rfl, by simp, by simp [Lib.indexByte]⟩
    · have hne : (b == 46) = false := by simpa using hb
      rcases ih with ⟨h1, h2⟩ | ⟨x, r, h1, h2, h3⟩
      · left
        refine ⟨by simp [Lib.indexByte, hb, h1], ?_⟩
        intro h
        rcases List.mem_cons.1 h with q | q
        · exact hb q.symm
        · exact h2 q
      · right
        refine ⟨b :: x, r, by rw [h1]; rfl, ?_, ?_⟩
        · intro h
          rcases List.mem_cons.1 h with q | q
          · exact hb q.symm
          · exact h2 q
        · have h4 : ¬ (x.length : Int) = -1 := by omega
          simp [Lib.indexByte, hb, h3, h4]
def ix (s : ByteArray) : Int := Lib.indexByte s.data.toList 46
theorem size_list (s : ByteArray) : s.size = s.data.toList.length := by rw [Array.length_toList]; rfl
theorem ix_cases (s : ByteArray) : ix s = -1 ∨ ∃ j : Nat, ix s = (j : Int) ∧ j < s.size := by
  rcases index_cases s.data.toList with ⟨h, _⟩ | ⟨x, r, h1, _, h3⟩
  · exact .inl h
  · refine .inr ⟨x.length, h3, ?_⟩
    rw [size_list, h1]
    simp
/-- a text's parts, of at most k cuts -/
def spB : Nat → ByteArray → List ByteArray
  | 0, s => [s]
  | k + 1, s => if ix s < 0 then [s] else s.extract 0 (ix s).toNat :: spB k (s.extract ((ix s).toNat + 1) s.size)
theorem spB_zero (s : ByteArray) : spB 0 s = [s] := rfl
theorem spB_miss {s : ByteArray} (h : ix s < 0) (k : Nat) : spB k s = [s] := by
  cases k with
  | zero => rfl
  | succ k => simp [spB, h]
theorem spB_hit {s : ByteArray} {j : Nat} (h : ix s = (j : Int)) (k : Nat) : spB (k + 1) s = s.extract 0 j :: spB k (s.extract (j + 1) s.size) := by
  have : ¬ ix s < 0 := by omega
  rw [spB, if_neg this, h]
  rfl
theorem spB_len : ∀ (k : Nat) (s : ByteArray), 1 ≤ (spB k s).length ∧ (spB k s).length ≤ k + 1
  | 0, s => by simp [spB]
  | k + 1, s => by
    rcases ix_cases s with h | ⟨j, h, _⟩
    · rw [spB_miss (by omega)]; simp
    · rw [spB_hit h]
      have := spB_len k (s.extract (j + 1) s.size)
      simp; omega
theorem index_any (s : ByteArray) (w : World) : Calls Tryd.prog 48 #[.string s, .string ⟨#[46]⟩] w fun e w' => e = .returned (.int .i64 (ix s)) ∧ w = w' :=
  (Tryd.strings_Index_one s 46 w).mono fun e w' ⟨h1, h2⟩ => ⟨h1, h2.symm⟩
theorem count_any (s : ByteArray) (w : World) : Calls Tryd.prog 47 #[.string s, .string ⟨#[46]⟩] w fun e w' => e = .returned (.int .i64 (Lib.countByte s.data.toList 46)) ∧ w = w' :=
  (Tryd.strings_Count_one s 46 w).mono fun e w' ⟨h1, h2⟩ => ⟨h1, h2.symm⟩
theorem Sw.rts {w : World} {B n : Nat} {l : List ByteArray} (h : Sw w B n l) (hB : B < w.heap.size) (hm : n ≤ maxLen) {r : List ByteArray} {k : Nat} (hr : l.take k = r) (hk : r.length = k) (hkn : k ≤ n) : Rts w (.slice (some ⟨B, 0, none⟩) k n) r := by
  refine ⟨_, n, by rw [hk], by omega, hm, fun _ => ⟨B, 0, rfl, hB, fun j x hx => ?_⟩⟩
  have hj := (List.getElem?_eq_some_iff.1 hx).1
  rw [Nat.zero_add, World.ownsRow.cellAt h j (by have := h.len; omega)]
  refine scells_at ?_
  rw [← hr, List.getElem?_take_of_lt (by omega)] at hx
  exact hx
theorem done_take {done : List ByteArray} {cur : ByteArray} {N : Nat} (h : done.length < N) (e : ByteArray) : ((done ++ List.replicate (N - done.length) e).set done.length cur).take (done.length + 1) = done ++ [cur] := by
  obtain ⟨m, hm⟩ : ∃ m, N - done.length = m + 1 := ⟨N - done.length - 1, by omega⟩
  rw [hm, List.replicate_succ, List.set_append_right _ _ (Nat.le_refl _), Nat.sub_self]
  have : (done ++ (cur :: List.replicate m e)) = (done ++ [cur]) ++ List.replicate m e := by simp
  show ((done ++ (cur :: List.replicate m e))).take (done.length + 1) = _
  rw [this, List.take_append_of_le_length (by simp), List.take_of_length_le (by simp)]
theorem done_set {done : List ByteArray} {x e : ByteArray} {N : Nat} (h : done.length < N) : (done ++ List.replicate (N - done.length) e).set done.length x = (done ++ [x]) ++ List.replicate (N - (done.length + 1)) e := by
  obtain ⟨m, hm⟩ : ∃ m, N - done.length = m + 1 := ⟨N - done.length - 1, by omega⟩
  rw [hm, List.replicate_succ, List.set_append_right _ _ (Nat.le_refl _), Nat.sub_self, show N - (done.length + 1) = m by omega]
  simp
set_option maxHeartbeats 4000000 in
theorem gen_seven (s : ByteArray) (w : World) (hs : s.size ≤ 140737488351232) (M : Nat) (hM : M = min 6 s.size) :
    Calls Tryd.prog 38 #[.string s, .string ⟨#[46]⟩, .int .i64 0, .int .i64 7] w fun e w' => ∃ v, e = .returned v ∧ Rts w' v (spB M s) ∧ Below w.heap.size w w' := by
  obtain ⟨i0, hi, hz0, hz1, hz2⟩ := info_parts' infoS
  obtain ⟨N, hN⟩ : ∃ N, M + 1 = N := ⟨_, rfl⟩
  have hmn : min (7 : Int) ((s.size : Int) + 1) = (N : Int) := by omega
  have hmn2 : min ((s.size : Int) + 1) (7 : Int) = (N : Int) := by omega
  have hmn3 : (if (s.size : Int) + 1 < 7 then (s.size : Int) + 1 else 7) = (N : Int) := by split <;> omega
  have hNM : (N : Int) - 1 = (M : Int) := by omega
  have hNb : N ≤ 1001 := by omega
  have hN1 : 1 ≤ N := by omega
  have hMN : M < N := by omega
  have HS0 : Hid ([] ++ spB (M - 0) s = spB M s) := by show [] ++ spB (M - 0) s = spB M s; simp
  obtain ⟨R, hR⟩ : ∃ R, spB M s = R := ⟨_, rfl⟩
  rw [hR] at HS0 ⊢
  have hz : ((⟨#[46]⟩ : ByteArray).size : Int) = 1 := rfl
  clear hR hM hN
  go_enter Tryd.func38, Tryd.ntmps38
  go_wp2_with (at_make; (refine wpList_make_full _ rfl _ _ 40 rfl w.heap.size 9 i0 (.string ⟨#[]⟩) 1 Tryd.underlying40 hi hz0 hz1 _ _ _ _ N rfl rfl (by omega) (by omega) (by rw [hz2]; omega) (by unfold maxLen; omega) (Nat.le_refl _) ?_); intro w1 hown hgrow)
  go_loopw [0, 10, 11] (fun c i _ wr => ∃ (k : Nat) (cur : ByteArray) (done : List ByteArray), k ≤ M ∧ c = .string cur ∧ i = .int .i64 (k : Int) ∧ cur.size ≤ 140737488351232 ∧ Hid (done.length = k ∧ done ++ spB (M - k) cur = R) ∧ Hid (Sw wr w.heap.size N (done ++ List.replicate (N - k) ⟨#[]⟩) ∧ Below w.heap.size w wr)) (fun _ i _ _ => M - (intOf i).toNat)
  case atStart => exact ⟨0, s, [], Nat.zero_le _, rfl, rfl, hs, ⟨rfl, HS0.out⟩, by simpa using Sw.made hown, (Below.refl _ _).grown hgrow (Nat.le_refl _) (fun k hk => by cases hk)⟩
  case round =>
    clear HS0 hs hown hgrow
    obtain ⟨k, cur, done, hk, rfl, rfl, hcs, HD, HS⟩ := hrel
    have hkN : k < N := by omega
    obtain ⟨y, cy⟩ := HS.out.1.cell k hkN
    have cf := HS.out.1.free k
    obtain ⟨K1, hK1⟩ : ∃ K1, k + 1 = K1 := ⟨_, rfl⟩
    have hK2 : (k : Int) + 1 = (K1 : Int) := by omega
    have hKN : K1 ≤ N := by omega
    have HK : Hid (k + 1 = K1) := hK1
    clear hK1
    have hup : ∀ W : World, (Instr.slice 40 (.slice (some ⟨w.heap.size, 0, none⟩) N N) none (some (.int .i64 (K1 : Int))) none).run Tryd.prog W = .ok (.slice (some ⟨w.heap.size, 0, none⟩) K1 N) W := fun W => by
      have := run_slice_h (P := Tryd.prog) (w := W) 40 (some ⟨w.heap.size, 0, none⟩) N N Tryd.underlying40 .i64 (K1 : Int) (by omega) (by omega)
      simp [this, go_sem, sliced, Addr.add]
    have HF : Hid (∀ (l : List ByteArray), done ++ [cur] = l → Rts (wr.setCell ⟨w.heap.size, k, none⟩ (.string cur)) (.slice (some ⟨w.heap.size, 0, none⟩) K1 N) l ∧ Below w.heap.size w (wr.setCell ⟨w.heap.size, k, none⟩ (.string cur))) := fun l hl => by
      have h1 := HS.out.1.set k cur
      have hdl := HD.out.1
      have h2 := done_take (cur := cur) (N := N) (done := done) (by omega) ⟨#[]⟩
      rw [hdl] at h2
      refine ⟨h1.rts ?_ (by unfold maxLen; omega) (r := l) (by rw [← HK.out, h2, hl]) (by rw [← hl, ← HK.out]; simp [hdl]) hKN, HS.out.2.setCell (Nat.le_refl _) _⟩
      have := World.block_lt_of_cell? _ _ cy
      simpa using this
    by_cases hlt : ¬ k < M
    · have hkM : k = M := by omega
      have HL := HF.out R (by
        have := HD.out.2
        rw [hkM, Nat.sub_self, spB_zero] at this
        exact this)
      have hkd : decide ((k : Int) < (M : Int)) = false := decide_eq_false (by omega)
      clear hkM
      have HL : Hid (Rts (wr.setCell ⟨w.heap.size, k, none⟩ (.string cur)) (.slice (some ⟨w.heap.size, 0, none⟩) K1 N) R ∧ Below w.heap.size w (wr.setCell ⟨w.heap.size, k, none⟩ (.string cur))) := HL
      clear HF HD HS HK
      go_wp2
      go_ret
      exact ⟨_, rfl, HL.out.1, HL.out.2⟩
    have hlt : k < M := by omega
    rcases ix_cases cur with h | ⟨j, h, hj⟩
    · have HL := HF.out R (by
        have := HD.out.2
        rw [spB_miss (by omega)] at this
        exact this)
      have HL : Hid (Rts (wr.setCell ⟨w.heap.size, k, none⟩ (.string cur)) (.slice (some ⟨w.heap.size, 0, none⟩) K1 N) R ∧ Below w.heap.size w (wr.setCell ⟨w.heap.size, k, none⟩ (.string cur))) := HL
      have HI := index_any cur wr
      rw [h] at HI
      have HI : Hid (Calls Tryd.prog 48 #[.string cur, .string ⟨#[46]⟩] wr fun e w' => e = .returned (.int .i64 (-1)) ∧ wr = w') := HI
      clear HF HD HS HK h
      go_wp2_with fail
      refine (HI.out).mono ?_
      rintro e u ⟨rfl, rfl⟩
      clear HI
      go_wp2
      go_ret
      exact ⟨_, rfl, HL.out.1, HL.out.2⟩
    · have HI := index_any cur wr
      rw [h] at HI
      have HI : Hid (Calls Tryd.prog 48 #[.string cur, .string ⟨#[46]⟩] wr fun e w' => e = .returned (.int .i64 (j : Int)) ∧ wr = w') := HI
      have HD2 := HD.out.2
      rw [show M - k = (M - K1) + 1 by have := HK.out; omega, spB_hit h] at HD2
      obtain ⟨J, hJ⟩ : ∃ J, j + 1 = J := ⟨_, rfl⟩
      have hJ2 : (j : Int) + 1 = (J : Int) := by omega
      rw [hJ] at HD2
      obtain ⟨x, hx⟩ : ∃ x, cur.extract 0 j = x := ⟨_, rfl⟩
      obtain ⟨c2, hc2⟩ : ∃ c, cur.extract J cur.size = c := ⟨_, rfl⟩
      rw [hx, hc2] at HD2
      have hc2s : c2.size ≤ 140737488351232 := by
        rw [← hc2, ByteArray.size_extract]
        omega
      have HE : Hid ((done ++ [x]).length = K1 ∧ (done ++ [x]) ++ spB (M - K1) c2 = R) := ⟨by have := HD.out.1; have := HK.out; simp; omega, by rw [List.append_assoc]; exact HD2⟩
      have HT : Hid (Sw (wr.setCell ⟨w.heap.size, k, none⟩ (.string x)) w.heap.size N ((done ++ [x]) ++ List.replicate (N - K1) ⟨#[]⟩) ∧ Below w.heap.size w (wr.setCell ⟨w.heap.size, k, none⟩ (.string x))) := by
        have h1 := HS.out.1.set k x
        have hdl := HD.out.1
        have h2 := done_set (x := x) (e := ⟨#[]⟩) (N := N) (done := done) (by omega)
        rw [hdl, HK.out] at h2
        rw [h2] at h1
        exact ⟨h1, HS.out.2.setCell (Nat.le_refl _) _⟩
      have hJs : J ≤ cur.size := by omega
      have hKM : K1 ≤ M := by have := HK.out; omega
      have hK3 : M - K1 < M - k := by have := HK.out; omega
      clear HF HD HS HK h HD2 hJ
      go_wp2_with fail
      refine (HI.out).mono ?_
      rintro e u ⟨rfl, rfl⟩
      clear HI
      go_wp2
      go_roundw
      case rel => exact ⟨K1, c2, done ++ [x], hKM, by first | rfl | (rw [hc2]), by first | rfl | go_num, hc2s, HE.out, HT.out⟩
      case measure => simp [intOf]; omega
set_option maxHeartbeats 4000000 in
theorem gen_all (s : ByteArray) (w : World) (hs0 : s.size ≤ 1000) (M : Nat) (hM : M = Lib.countByte s.data.toList 46) :
    Calls Tryd.prog 38 #[.string s, .string ⟨#[46]⟩, .int .i64 0, .int .i64 (-1)] w fun e w' => ∃ v, e = .returned v ∧ Rts w' v (spB M s) ∧ Below w.heap.size w w' := by
  have hs : s.size ≤ 140737488351232 := by omega
  obtain ⟨i0, hi, hz0, hz1, hz2⟩ := info_parts' infoS
  obtain ⟨N, hN⟩ : ∃ N, M + 1 = N := ⟨_, rfl⟩
  obtain ⟨q, hq⟩ : ∃ q, Lib.countByte s.data.toList 46 = q := ⟨_, rfl⟩
  have hqs : q ≤ s.size := by rw [← hq, size_list]; exact List.count_le_length
  rw [hq] at hM
  have hq1 : (q : Int) + 1 = (N : Int) := by omega
  have hmn : min (N : Int) ((s.size : Int) + 1) = (N : Int) := by omega
  have hmn2 : min ((s.size : Int) + 1) (N : Int) = (N : Int) := by omega
  have hmn3 : (if (s.size : Int) + 1 < (N : Int) then (s.size : Int) + 1 else (N : Int)) = (N : Int) := by split <;> omega
  have HC := count_any s w
  rw [hq] at HC
  have HC : Hid (Calls Tryd.prog 47 #[.string s, .string ⟨#[46]⟩] w fun e w' => e = .returned (.int .i64 (q : Int)) ∧ w = w') := HC
  clear hq
  have hNM : (N : Int) - 1 = (M : Int) := by omega
  have hNb : N ≤ 1001 := by omega
  have hN1 : 1 ≤ N := by omega
  have hMN : M < N := by omega
  have HS0 : Hid ([] ++ spB (M - 0) s = spB M s) := by show [] ++ spB (M - 0) s = spB M s; simp
  obtain ⟨R, hR⟩ : ∃ R, spB M s = R := ⟨_, rfl⟩
  rw [hR] at HS0 ⊢
  have hz : ((⟨#[46]⟩ : ByteArray).size : Int) = 1 := rfl
  clear hR hM hN hs0
  go_enter Tryd.func38, Tryd.ntmps38
  go_wp2_with fail
  refine (HC.out).mono ?_
  rintro e u ⟨rfl, rfl⟩
  clear HC
  go_wp2_with (at_make; (refine wpList_make_full _ rfl _ _ 40 rfl w.heap.size 9 i0 (.string ⟨#[]⟩) 1 Tryd.underlying40 hi hz0 hz1 _ _ _ _ N rfl rfl (by omega) (by omega) (by rw [hz2]; omega) (by unfold maxLen; omega) (Nat.le_refl _) ?_); intro w1 hown hgrow)
  go_loopw [0, 10, 11] (fun c i _ wr => ∃ (k : Nat) (cur : ByteArray) (done : List ByteArray), k ≤ M ∧ c = .string cur ∧ i = .int .i64 (k : Int) ∧ cur.size ≤ 140737488351232 ∧ Hid (done.length = k ∧ done ++ spB (M - k) cur = R) ∧ Hid (Sw wr w.heap.size N (done ++ List.replicate (N - k) ⟨#[]⟩) ∧ Below w.heap.size w wr)) (fun _ i _ _ => M - (intOf i).toNat)
  case atStart => exact ⟨0, s, [], Nat.zero_le _, rfl, rfl, hs, ⟨rfl, HS0.out⟩, by simpa using Sw.made hown, (Below.refl _ _).grown hgrow (Nat.le_refl _) (fun k hk => by cases hk)⟩
  case round =>
    clear HS0 hs hown hgrow
    obtain ⟨k, cur, done, hk, rfl, rfl, hcs, HD, HS⟩ := hrel
    have hkN : k < N := by omega
    obtain ⟨y, cy⟩ := HS.out.1.cell k hkN
    have cf := HS.out.1.free k
    obtain ⟨K1, hK1⟩ : ∃ K1, k + 1 = K1 := ⟨_, rfl⟩
    have hK2 : (k : Int) + 1 = (K1 : Int) := by omega
    have hKN : K1 ≤ N := by omega
    have HK : Hid (k + 1 = K1) := hK1
    clear hK1
    have hup : ∀ W : World, (Instr.slice 40 (.slice (some ⟨w.heap.size, 0, none⟩) N N) none (some (.int .i64 (K1 : Int))) none).run Tryd.prog W = .ok (.slice (some ⟨w.heap.size, 0, none⟩) K1 N) W := fun W => by
      have := run_slice_h (P := Tryd.prog) (w := W) 40 (some ⟨w.heap.size, 0, none⟩) N N Tryd.underlying40 .i64 (K1 : Int) (by omega) (by omega)
      simp [this, go_sem, sliced, Addr.add]
    have HF : Hid (∀ (l : List ByteArray), done ++ [cur] = l → Rts (wr.setCell ⟨w.heap.size, k, none⟩ (.string cur)) (.slice (some ⟨w.heap.size, 0, none⟩) K1 N) l ∧ Below w.heap.size w (wr.setCell ⟨w.heap.size, k, none⟩ (.string cur))) := fun l hl => by
      have h1 := HS.out.1.set k cur
      have hdl := HD.out.1
      have h2 := done_take (cur := cur) (N := N) (done := done) (by omega) ⟨#[]⟩
      rw [hdl] at h2
      refine ⟨h1.rts ?_ (by unfold maxLen; omega) (r := l) (by rw [← HK.out, h2, hl]) (by rw [← hl, ← HK.out]; simp [hdl]) hKN, HS.out.2.setCell (Nat.le_refl _) _⟩
      have := World.block_lt_of_cell? _ _ cy
      simpa using this
    by_cases hlt : ¬ k < M
    · have hkM : k = M := by omega
      have HL := HF.out R (by
        have := HD.out.2
        rw [hkM, Nat.sub_self, spB_zero] at this
        exact this)
      have hkd : decide ((k : Int) < (M : Int)) = false := decide_eq_false (by omega)
      clear hkM
      have HL : Hid (Rts (wr.setCell ⟨w.heap.size, k, none⟩ (.string cur)) (.slice (some ⟨w.heap.size, 0, none⟩) K1 N) R ∧ Below w.heap.size w (wr.setCell ⟨w.heap.size, k, none⟩ (.string cur))) := HL
      clear HF HD HS HK
      go_wp2
      go_ret
      exact ⟨_, rfl, HL.out.1, HL.out.2⟩
    have hlt : k < M := by omega
    rcases ix_cases cur with h | ⟨j, h, hj⟩
    · have HL := HF.out R (by
        have := HD.out.2
        rw [spB_miss (by omega)] at this
        exact this)
      have HL : Hid (Rts (wr.setCell ⟨w.heap.size, k, none⟩ (.string cur)) (.slice (some ⟨w.heap.size, 0, none⟩) K1 N) R ∧ Below w.heap.size w (wr.setCell ⟨w.heap.size, k, none⟩ (.string cur))) := HL
      have HI := index_any cur wr
      rw [h] at HI
      have HI : Hid (Calls Tryd.prog 48 #[.string cur, .string ⟨#[46]⟩] wr fun e w' => e = .returned (.int .i64 (-1)) ∧ wr = w') := HI
      clear HF HD HS HK h
      go_wp2_with fail
      refine (HI.out).mono ?_
      rintro e u ⟨rfl, rfl⟩
      clear HI
      go_wp2
      go_ret
      exact ⟨_, rfl, HL.out.1, HL.out.2⟩
    · have HI := index_any cur wr
      rw [h] at HI
      have HI : Hid (Calls Tryd.prog 48 #[.string cur, .string ⟨#[46]⟩] wr fun e w' => e = .returned (.int .i64 (j : Int)) ∧ wr = w') := HI
      have HD2 := HD.out.2
      rw [show M - k = (M - K1) + 1 by have := HK.out; omega, spB_hit h] at HD2
      obtain ⟨J, hJ⟩ : ∃ J, j + 1 = J := ⟨_, rfl⟩
      have hJ2 : (j : Int) + 1 = (J : Int) := by omega
      rw [hJ] at HD2
      obtain ⟨x, hx⟩ : ∃ x, cur.extract 0 j = x := ⟨_, rfl⟩
      obtain ⟨c2, hc2⟩ : ∃ c, cur.extract J cur.size = c := ⟨_, rfl⟩
      rw [hx, hc2] at HD2
      have hc2s : c2.size ≤ 140737488351232 := by
        rw [← hc2, ByteArray.size_extract]
        omega
      have HE : Hid ((done ++ [x]).length = K1 ∧ (done ++ [x]) ++ spB (M - K1) c2 = R) := ⟨by have := HD.out.1; have := HK.out; simp; omega, by rw [List.append_assoc]; exact HD2⟩
      have HT : Hid (Sw (wr.setCell ⟨w.heap.size, k, none⟩ (.string x)) w.heap.size N ((done ++ [x]) ++ List.replicate (N - K1) ⟨#[]⟩) ∧ Below w.heap.size w (wr.setCell ⟨w.heap.size, k, none⟩ (.string x))) := by
        have h1 := HS.out.1.set k x
        have hdl := HD.out.1
        have h2 := done_set (x := x) (e := ⟨#[]⟩) (N := N) (done := done) (by omega)
        rw [hdl, HK.out] at h2
        rw [h2] at h1
        exact ⟨h1, HS.out.2.setCell (Nat.le_refl _) _⟩
      have hJs : J ≤ cur.size := by omega
      have hKM : K1 ≤ M := by have := HK.out; omega
      have hK3 : M - K1 < M - k := by have := HK.out; omega
      clear HF HD HS HK h HD2 hJ
      go_wp2_with fail
      refine (HI.out).mono ?_
      rintro e u ⟨rfl, rfl⟩
      clear HI
      go_wp2
      go_roundw
      case rel => exact ⟨K1, c2, done ++ [x], hKM, by first | rfl | (rw [hc2]), by first | rfl | go_num, hc2s, HE.out, HT.out⟩
      case measure => simp [intOf]; omega
theorem splitN_any (s : ByteArray) (w : World) (hs : s.size ≤ 140737488351232) :
    Calls Tryd.prog 24 #[.string s, .string ⟨#[46]⟩, .int .i64 7] w fun e w' => ∃ v, e = .returned v ∧ Rts w' v (spB (min 6 s.size) s) ∧ Below w.heap.size w w' := by
  have HG : Hid (Calls Tryd.prog 38 #[.string s, .string ⟨#[46]⟩, .int .i64 0, .int .i64 7] w fun e w' => ∃ v, e = .returned v ∧ Rts w' v (spB (min 6 s.size) s) ∧ Below w.heap.size w w') := gen_seven s w hs _ rfl
  generalize spB (min 6 s.size) s = R at HG
  go_enter Tryd.func24, Tryd.ntmps24
  go_wp2_with fail
  refine (HG.out).mono ?_
  rintro e u ⟨v, rfl, h1, h2⟩
  have H1 : Hid (Rts u v R ∧ Below w.heap.size w u) := ⟨h1, h2⟩
  clear h1 h2 HG
  go_wp2
  go_ret
  exact ⟨_, rfl, H1.out.1, H1.out.2⟩
theorem split_any (s : ByteArray) (w : World) (hs : s.size ≤ 1000) :
    Calls Tryd.prog 26 #[.string s, .string ⟨#[46]⟩] w fun e w' => ∃ v, e = .returned v ∧ Rts w' v (spB (Lib.countByte s.data.toList 46) s) ∧ Below w.heap.size w w' := by
  have HG : Hid (Calls Tryd.prog 38 #[.string s, .string ⟨#[46]⟩, .int .i64 0, .int .i64 (-1)] w fun e w' => ∃ v, e = .returned v ∧ Rts w' v (spB (Lib.countByte s.data.toList 46) s) ∧ Below w.heap.size w w') := gen_all s w hs _ rfl
  generalize spB (Lib.countByte s.data.toList 46) s = R at HG
  go_enter Tryd.func26, Tryd.ntmps26
  go_wp2_with fail
  refine (HG.out).mono ?_
  rintro e u ⟨v, rfl, h1, h2⟩
  have H1 : Hid (Rts u v R ∧ Below w.heap.size w u) := ⟨h1, h2⟩
  clear h1 h2 HG
  go_wp2
  go_ret
  exact ⟨_, rfl, H1.out.1, H1.out.2⟩
end Go.Proofs.YtllfokmpnalojaaDoor.route
