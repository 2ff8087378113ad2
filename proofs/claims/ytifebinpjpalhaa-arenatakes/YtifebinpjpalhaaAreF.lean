/- slices.Grow of nothing, slices.Concat of spans. -/
import Derived.Test.YtifebinpjpalhaaAreA
import Derived.Lib.AppendZeros
import Derived.Lib.SliceRun
namespace Go.Proofs.Ytifebinpjpalhaa.arena
open Go.RowKit
set_option linter.unusedVariables false
set_option linter.unusedSimpArgs false
set_option maxRecDepth 100000

set_option maxHeartbeats 1000000 in
theorem grow_any (n : Nat) (w : World) (hn : n ≤ 1000) :
    Calls Try.prog 40 #[.slice none 0 0, .int .i64 (n : Int)] w fun e w' => ∃ v, e = .returned v ∧ Sps w' w.heap.size v [] ∧ Below w.heap.size w w' := by
  have e0 : decide ((n : Int) < 0) = false := by rw [decide_eq_false_iff_not]; omega
  by_cases h0 : n = 0
  · subst h0
    go_enter Try.func40, Try.ntmps40
    go_wp2
    go_ret
    exact ⟨_, rfl, Sps.nil _ _, Below.refl _ _⟩
  · have e1 : decide ((n : Int) > 0) = true := by rw [decide_eq_true_eq]; omega
    obtain ⟨i0, hi, hz0, hz1, hz2⟩ := info_parts infoP
    have hrun := fun ty => Lib.run_append_nil_zeros (P := Try.prog) w 22 3 ty 43 i0 (.agg #[.int .i64 0, .int .i64 0]) .i64 .i64 Try.underlying22 Try.underlying3 hi hz0 n (by omega) (by omega) (by omega) (by rw [hz2]; omega)
    have hge := grownCap_ge w n 0 43
    have hmx := grownCap_le_maxLen w n 0 43 (by unfold maxLen; omega)
    obtain ⟨cap, hcap⟩ : ∃ c, grownCap w n 0 43 = c := ⟨_, rfl⟩
    rw [hcap] at hge hmx
    simp only [hcap] at hrun
    have hcs : (Builtin.zeroCells (Value.agg #[.int .i64 0, .int .i64 0]).cells n ++ Builtin.zeroCells (Value.agg #[.int .i64 0, .int .i64 0]).cells (cap - n)).size = cap * 2 := by
      rw [Array.size_append, size_zeroCells, size_zeroCells]
      show n * 2 + (cap - n) * 2 = cap * 2
      omega
    obtain ⟨cs, hcse⟩ : ∃ cs, Builtin.zeroCells (Value.agg #[.int .i64 0, .int .i64 0]).cells n ++ Builtin.zeroCells (Value.agg #[.int .i64 0, .int .i64 0]).cells (cap - n) = cs := ⟨_, rfl⟩
    rw [hcse] at hcs
    simp only [hcse] at hrun
    have hsl : ∀ W : World, (Instr.slice 22 (.slice (some ⟨w.heap.size, 0, none⟩) n cap) none (some (.int .i64 0)) none).run Try.prog W = .ok (.slice (some ⟨w.heap.size, 0, none⟩) 0 cap) W := fun W => by
      have := run_slice_h (P := Try.prog) (w := W) 22 (some ⟨w.heap.size, 0, none⟩) n cap Try.underlying22 .i64 0 (by omega) (by omega)
      simp [this, go_sem, sliced, Addr.add]
    have HO : Hid (Sps (w.drew.alloc (.cells cs 43)) w.heap.size (.slice (some ⟨w.heap.size, 0, none⟩) 0 cap) [] ∧ Below w.heap.size w (w.drew.alloc (.cells cs 43))) :=
      ⟨World.ownsRow_made w.drew cs cap (Nat.le_refl _) hmx hcs, (Below.refl _ _).drew.alloc (Nat.le_refl _) _⟩
    clear hcse hcs hcap hi hz0 hz1 hz2
    go_enter Try.func40, Try.ntmps40
    go_wp2_with (at_builtin; refine Lib.wpList_append_run _ rfl _ _ _ _ rfl _ _ rfl rfl _ _ (hrun _) ?_)
    go_wp2
    go_ret
    exact ⟨_, rfl, HO.out.1, HO.out.2⟩
def total (Ls : List (List Sp)) : Nat := (Ls.map List.length).sum
theorem total_drop {Ls : List (List Sp)} {k : Nat} {L : List Sp} (h : Ls[k]? = some L) : total (Ls.drop k) = L.length + total (Ls.drop (k + 1)) := by
  have hk := (List.getElem?_eq_some_iff.1 h).1
  have hx := (List.getElem?_eq_some_iff.1 h).2
  rw [List.drop_eq_getElem_cons hk, hx]
  simp [total]
theorem flat_drop {Ls : List (List Sp)} {k : Nat} {L : List Sp} (h : Ls[k]? = some L) : (Ls.drop k).flatten = L ++ (Ls.drop (k + 1)).flatten := by
  have hk := (List.getElem?_eq_some_iff.1 h).1
  have hx := (List.getElem?_eq_some_iff.1 h).2
  rw [List.drop_eq_getElem_cons hk, hx, List.flatten_cons]
theorem total_flat (Ls : List (List Sp)) : Ls.flatten.length = total Ls := by rw [List.length_flatten]; rfl
/-- slices that lie in block X, each reads as its list -/
structure Css (w : World) (X n : Nat) (Ls : List (List Sp)) : Prop where
  len : Ls.length = n
  lt : X < w.heap.size
  all : ∀ k L, Ls[k]? = some L → ∃ v, w.cell? ⟨X, k, none⟩ = some v ∧ Rss w v L
set_option maxHeartbeats 2000000 in
theorem concat_any (X n : Nat) (Ls : List (List Sp)) (w : World) (h : Css w X n Ls) (hn : n ≤ 1000) (ht : total Ls ≤ 1000) :
    Calls Try.prog 34 #[.slice (some ⟨X, 0, none⟩) n n] w fun e w' => ∃ v, e = .returned v ∧ Sps w' w.heap.size v Ls.flatten ∧ Below w.heap.size w w' := by
  have H : Hid (Css w X n Ls) := h
  obtain ⟨t, hte⟩ : ∃ t, total Ls = t := ⟨_, rfl⟩
  have HT : Hid (total Ls = t) := hte
  rw [hte] at ht
  have HG : Hid (∀ u : World, Calls Try.prog 40 #[.slice none 0 0, .int .i64 (t : Int)] u fun e w' => ∃ v, e = .returned v ∧ Sps w' u.heap.size v [] ∧ Below u.heap.size u w') := fun u => grow_any t u ht
  have hX : X < w.heap.size := h.lt
  clear h hte
  go_enter Try.func34, Try.ntmps34
  go_wp2
  go_loopw [3, 11] (fun s i wr => ∃ (k q : Nat), k ≤ n ∧ i = .int .i64 (k : Int) ∧ s = .int .i64 (q : Int) ∧ q ≤ t ∧ w = wr ∧ Hid (q + total (Ls.drop k) = t)) (fun _ i _ => n - (intOf i).toNat)
  case atStart => exact ⟨0, 0, Nat.zero_le _, rfl, rfl, Nat.zero_le _, rfl, by show 0 + total Ls = t; rw [HT.out]; omega⟩
  case round =>
    obtain ⟨k, q, hk, rfl, rfl, hq, rfl, HA⟩ := hrel
    by_cases hlt : ¬ k < n
    · have hkn : n = k := by omega
      subst hkn
      have hqt : t = q := by
        have := HA.out
        rw [List.drop_eq_nil_of_le (by have := H.out.len; omega)] at this
        simp [total] at this
        omega
      subst hqt
      clear HA hlt
      go_wp2_with fail
      refine (HG.out _).mono ?_
      rintro e u ⟨v, rfl, hS, hbu⟩
      have HS : Hid (Sps u w.heap.size v []) := hS
      have HBu : Hid (Below w.heap.size w u) := hbu
      clear hS hbu HG
      go_wp2
      go_loopw [6, 27] (fun s i wr => ∃ (k : Nat) (acc : List Sp), k ≤ n ∧ i = .int .i64 (k : Int) ∧ Sps wr w.heap.size s acc ∧ Below w.heap.size w wr ∧ Hid (acc ++ (Ls.drop k).flatten = Ls.flatten)) (fun _ i _ => n - (intOf i).toNat)
      case atStart => exact ⟨0, [], Nat.zero_le _, rfl, HS.out, HBu.out, rfl⟩
      case round =>
        obtain ⟨k, acc, hk, rfl, hS, hbr, HA⟩ := hrel
        have HBr : Hid (Below w.heap.size w wr) := hbr
        have HSr : Hid (Sps wr w.heap.size u6 acc) := hS
        by_cases hlt : ¬ k < n
        · have HQ : Hid (acc = Ls.flatten) := by
            have := HA.out
            rw [List.drop_eq_nil_of_le (by have := H.out.len; omega)] at this
            show _ = _
            simpa using this
          clear hS hbr HA
          go_wp2
          go_ret
          exact ⟨_, rfl, by rw [← HQ.out]; exact HSr.out, HBr.out⟩
        · have hlt : k < n := by omega
          obtain ⟨L, hL⟩ : ∃ L, Ls[k]? = some L := ⟨_, List.getElem?_eq_getElem (by have := H.out.len; omega)⟩
          obtain ⟨vk, c0, hRk⟩ := H.out.all k L hL
          have c1 := (hbr.cell (p := ⟨X, k, none⟩) hX).trans c0
          have HRk : Hid (Rss wr vk L) := hRk.below hbr
          have HA2 : Hid ((acc ++ L) ++ (Ls.drop (k + 1)).flatten = Ls.flatten) := by have := HA.out; rw [flat_drop hL, ← List.append_assoc] at this; exact this
          have HL : Hid (acc.length + L.length ≤ 1000) := by
            have h1 := congrArg List.length HA2.out
            rw [total_flat, HT.out] at h1
            simp only [List.length_append] at h1
            show _ ≤ _
            omega
          obtain ⟨ka, kn, kc, rfl⟩ : ∃ a n c, vk = .slice a n c := by obtain ⟨a, c, h, _⟩ := hRk; exact ⟨_, _, _, h⟩
          clear hS hbr HA hRk hL c0
          go_wp2_with
            (at_builtin
             refine wpList_sps _ rfl _ _ rfl w.heap.size _ acc rfl HSr.out _ L rfl HRk.out (by have := HL.out; omega) HBr.out.size ?_
             intro v' w' q1 q2 q3
             have t1 : Hid (Sps w' w.heap.size v' (acc ++ L)) := q1
             have t2 : Hid (Below w.heap.size w w') := HBr.out.trans q3
             clear q1 q2 q3)
          go_wp2
          go_roundw
          case rel => exact ⟨k + 1, acc ++ L, by omega, by go_num, t1.out, t2.out, HA2.out⟩
          case measure => simp [intOf]; omega
    · have hlt : k < n := by omega
      obtain ⟨L, hL⟩ : ∃ L, Ls[k]? = some L := ⟨_, List.getElem?_eq_getElem (by have := H.out.len; omega)⟩
      obtain ⟨vk, c0, hRk⟩ := H.out.all k L hL
      have HA2 : Hid (q + L.length + total (Ls.drop (k + 1)) = t) := by have := HA.out; rw [total_drop hL] at this; show _ = _; omega
      obtain ⟨ka, kc, rfl, _, _⟩ := hRk.form
      obtain ⟨m, hm⟩ : ∃ m, L.length = m := ⟨_, rfl⟩
      rw [hm] at HA2 c0
      have hqm : q + m ≤ t := by have := HA2.out; omega
      have e1 : decide ((q : Int) + (m : Int) < 0) = false := by rw [decide_eq_false_iff_not]; omega
      clear HA hRk hL hm
      go_wp2
      go_roundw
      case rel => exact ⟨k + 1, q + m, by omega, by go_num, by go_num, hqm, trivial, HA2.out⟩
      case measure => simp [intOf]; omega
end Go.Proofs.Ytifebinpjpalhaa.arena
