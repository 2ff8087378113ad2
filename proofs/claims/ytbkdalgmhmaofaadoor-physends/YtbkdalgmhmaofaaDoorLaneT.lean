/- plugref's lane: what Unturn answers. -/
import Derived.Test.YtbkdalgmhmaofaaDoorLaneS
import Derived.WalkLawsBesides
import Derived.WalkSmall
namespace Go.Proofs.YtbkdalgmhmaofaaDoor.lane
open Go.RowKit Go.PlainAid

set_option maxHeartbeats 400000 in
theorem runturn_no (s : ByteArray) (c : Int) (w : World) (hs : s.size ≤ 281474976710656) (h : levB (nums s) = false ∨ lev c = false) :
    Calls Tryd.prog 41 #[.string s, .int .u8 c] w fun e w' => e = .returned (.tuple #[.string ⟨#[]⟩, .int .i64 1]) ∧ Below w.heap.size w w' := by
  cases hr : levB (nums s)
  · clear h
    go_enter Tryd.func41, Tryd.ntmps41
    go_wp2_with (go_at_call 19; refine (only_lev _ _ (by unfold maxLen; omega)).mono ?_; rintro e w' ⟨rfl, rfl⟩)
    go_ret2
    exact ⟨rfl, Below.refl _ _⟩
  · rw [hr] at h
    have hl : lev c = false := by simpa using h
    simp [lev] at hl
    have h1 : (c != 74) = true := by simpa using hl.1
    have h2 : (c != 75) = true := by simpa using hl.2
    clear h hl
    go_enter Tryd.func41, Tryd.ntmps41
    go_wp2_with (go_at_call 19; refine (only_lev _ _ (by unfold maxLen; omega)).mono ?_; rintro e w' ⟨rfl, rfl⟩)
    go_ret2
    exact ⟨rfl, Below.refl _ _⟩

theorem Fill.drewN {w0 w : World} {B n k : Nat} {acc : List Int} (h : Fill w0 w B n k acc) (q : Nat) : Fill w0 (w.drewN q) B n k acc :=
  ⟨h.row, h.len, below_drewN h.bel q⟩
/-- string([]byte{c}) -/
theorem conv_one (c : Int) (w : World) : (convert 38 9 (.slice (some ⟨w.heap.size, 0, none⟩) 1 1)).run Tryd.prog (w.alloc (.cells #[.int .u8 c] 5)) = .ok (.string (strOfNums [c])) (w.alloc (.cells #[.int .u8 c] 5)) := by
  refine run_convert_bytes_arg (P := Tryd.prog) _ 38 5 Tryd.underlying38 Tryd.underlying5 w.heap.size 0 1 1 [c] rfl ?_ 9 Tryd.underlying9
  intro i hi
  obtain rfl : i = 0 := by omega
  simp
/-- a text behind one sign -/
theorem ahead_bt (c : Int) (s al : ByteArray) (hc : lev c = true) (e : strOfNums [c] ++ s = al) : al.size = s.size + 1 ∧ bt al 0 = c ∧ ∀ k, k < s.size → bt al (k + 1) = bt s k := by
  have hn : nums al = c :: nums s := by
    rw [← e, nums_append, nums_str [c] (byt_lev (by rw [levB_cons, hc]; rfl))]; rfl
  have hz : al.size = s.size + 1 := by rw [← nums_length, hn, List.length_cons, nums_length]
  refine ⟨hz, ?_, fun k hk => ?_⟩
  · rw [bt_nums al 0 (by omega), hn]; rfl
  · rw [bt_nums al (k + 1) (by omega), hn, bt_nums s k hk]; rfl

set_option maxHeartbeats 1000000 in
theorem runturn_ok (s : ByteArray) (c : Int) (w : World) (hs : s.size ≤ 281474976710656) (hr : levB (nums s) = true) (hc : lev c = true) :
    Calls Tryd.prog 41 #[.string s, .int .u8 c] w fun e w' => e = .returned (.tuple #[.string (strOfNums (unturnL c (nums s))), .int .i64 0]) ∧ Below w.heap.size w w' := by
  obtain ⟨i0, hi, hz0, hz1, hz2⟩ := info_parts info5
  have HC : Hid (lev c = true) := hc
  have hcv0 := conv_one c w
  have hone : (strOfNums [c]).size = 1 := str_size _
  rcases lev_tests hc with ⟨t1, t2⟩ | t1
  all_goals
    clear hc
    go_enter Tryd.func41, Tryd.ntmps41
    go_wp2_with (first
      | (go_at_call 19; refine (only_lev _ _ (by unfold maxLen; omega)).mono ?_; rintro e w' ⟨rfl, rfl⟩)
      | (at_make; (refine wpList_make_full _ rfl _ _ 38 rfl (w.heap.size + 1) 5 i0 (.int .u8 0) 1 Tryd.underlying38 hi hz0 hz1 _ _ _ _ s.size rfl rfl (by omega) (by omega) (by rw [hz2]; omega) (by unfold maxLen; omega) (by simp) ?_); intro w1 hown hgrow))
    obtain ⟨al, hal⟩ : ∃ al, strOfNums [c] ++ s = al := ⟨_, rfl⟩
    rw [hal]
    obtain ⟨hsz, hal0, halk⟩ := ahead_bt c s al HC.out hal
    have hsz1 : s.size + 1 ≤ al.size := by omega
    have HA0 : Hid (bt al 0 = c) := hal0
    have HAK : Hid (∀ k, k < s.size → bt al (k + 1) = bt s k) := halk
    have hb := get_bt al
    obtain ⟨w0, hw0⟩ : ∃ w0 : World, w0 = w.alloc (.cells #[.int .u8 c] 5) := ⟨_, rfl⟩
    have hbel0 : Hid (Below w.heap.size w w0) := by rw [hw0]; exact (Below.refl _ _).alloc (Nat.le_refl _) _
    have hF0 : Fill w0 w1 (w.heap.size + 1) s.size 0 [] := by
      rw [← hw0] at hgrow
      have e : w0.heap.size = w.heap.size + 1 := by rw [hw0]; simp
      rw [← hw0, e] at hown
      exact ⟨Row.made hown, rfl, by rw [← e]; exact (Below.refl _ _).grown hgrow (Nat.le_refl _) (fun k hk => by cases hk)⟩
    clear hal hsz hal0 halk hcv0 hone hw0 hown hgrow
    go_loopw [30] (fun i wr => ∃ (k : Nat) (acc : List Int), k ≤ s.size ∧ i = .int .i64 k ∧
        Fill w0 wr (w.heap.size + 1) s.size k acc ∧ Hid (acc ++ unturnL (bt al k) ((nums s).drop k) = unturnL c (nums s)))
      (fun i _ => s.size - (intOf i).toNat)
    case atStart => exact ⟨0, [], Nat.zero_le _, rfl, hF0, by show _ = _; rw [HA0.out]; rfl⟩
    case round =>
      obtain ⟨k, acc, hk, rfl, hfill, HR⟩ := hrel
      clear hF0
      by_cases hlt : k < s.size
      · have hd := drop_nums s k hlt
        have h := HR.out
        rw [hd, unturnL, ← HAK.out k hlt] at h
        have hce := hfill.row.cell k hlt
        have hfr := hfill.row.free k
        have HF : Hid (Fill w0 wr (w.heap.size + 1) s.size k acc) := hfill
        have g1 : (k : Int) < (al.size : Int) := by omega
        have g2 : (k : Int) + 1 < (al.size : Int) := by omega
        have g3 : (k : Int) < (s.size : Int) := by omega
        clear HR hd hfill
        by_cases he : bt al k = bt al (k + 1)
        · have e1 : (bt al k == bt al (k + 1)) = true := by simpa using he
          have H1 : Hid (acc ++ (49 :: unturnL (bt al (k + 1)) ((nums s).drop (k + 1))) = unturnL c (nums s)) := by
            have e2 : (bt al (k + 1) == bt al k) = true := by simpa using he.symm
            rw [e2] at h; exact h
          clear h he
          go_wp2
          go_quiet (fail)
          go_wp2
          go_roundw
          case rel => exact ⟨k + 1, acc ++ [49], by omega, by go_num, (HF.out.set2 hlt 48 49).drewN _, by have h := H1.out; show _ = _; simpa using h⟩
          case measure => simp [intOf]; omega
        · have e1 : (bt al k == bt al (k + 1)) = false := by simpa using he
          have H1 : Hid (acc ++ (48 :: unturnL (bt al (k + 1)) ((nums s).drop (k + 1))) = unturnL c (nums s)) := by
            have e2 : (bt al (k + 1) == bt al k) = false := by simpa using fun q => he q.symm
            rw [e2] at h; exact h
          clear h he
          go_wp2
          go_quiet (fail)
          go_wp2
          go_roundw
          case rel => exact ⟨k + 1, acc ++ [48], by omega, by go_num, (HF.out.set hlt 48).drewN _, by have h := H1.out; show _ = _; simpa using h⟩
          case measure => simp [intOf]; omega
      · obtain rfl : k = s.size := by omega
        have hcv := hfill.done.conv
        go_wp2
        go_ret2
        have h := HR.out
        rw [drop_end s _ (by omega)] at h
        simp [unturnL] at h
        rw [h]
        exact ⟨rfl, hbel0.out.trans (hfill.bel.mono (by omega))⟩
end Go.Proofs.YtbkdalgmhmaofaaDoor.lane
