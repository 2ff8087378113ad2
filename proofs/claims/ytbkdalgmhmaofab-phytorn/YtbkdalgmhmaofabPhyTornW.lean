/- PhyTorn: the walk. -/
import Derived.Test.YtbkdalgmhmaofabPhyX
import Derived.Test.YtbkdalgmhmaofabShelfC
import Derived.Shelf.Vars
namespace Go.Proofs.Ytbkdalgmhmaofab.phyTorn
open Go.RowKit Go.PlainAid Go.Proofs.Ytbkdalgmhmaofab.lane

theorem room (w : World) (h : w.ShapedOpen Try.prog) : ∃ m, w.cell? ⟨0, 0, none⟩ = some (.int .i64 m) :=
  Go.Proofs.cell_of_shapedOpen_int (zero := #[.int .i64 0]) (t := 3) h (of_decide_eq_true (by kernel_rfl)) (by kernel_rfl) rfl (by kernel_rfl) (by kernel_rfl) Try.underlying3
/-- the front of a row of what was heard -/
theorem front {w : World} {a : Option Addr} {L : List (List Int × Int)} (h : Hcs w a L) (n : Nat) : Hcs w a (L.take n) := by
  intro j p hj
  rw [List.getElem?_take] at hj
  split at hj
  · exact h j p hj
  · cases hj
set_option linter.unusedVariables false
set_option maxRecDepth 100000 in
set_option maxHeartbeats 4000000 in
theorem walk (a : Option Addr) (cap : Nat) (l : List ByteArray) (a1 : Int) (w : World) (ha : Sts w a l) (hcap : l.length ≤ cap) (hcm : cap ≤ maxLen) (hz : ∀ x ∈ l, x.size ≤ maxLen) (hsh : w.ShapedOpen Try.prog) :
    Calls Try.prog 3 #[.slice a l.length cap, .int .i64 a1] w fun e w' => e = .returned (.bool true) ∧ Below w.heap.size w w' := by
  obtain ⟨m, hm⟩ := room w hsh
  have hlow : 0 < w.heap.size := World.block_lt_of_cell? w _ hm
  have HM : Hid (∀ u : World, Below w.heap.size w u → u.cell? ⟨0, 0, none⟩ = some (.int .i64 m)) := fun u hb => (hb.cell (p := ⟨0, 0, none⟩) hlow).trans hm
  have HL : Hid (∀ w : World, Calls Try.prog 5 #[] w fun r w' => r = .returned (.bool true) ∧ Below w.heap.size w w') := phyLives_any
  have hcm' : cap ≤ 9223372036854775807 := hcm
  clear hsh hm hlow
  by_cases hl50 : l.length ≤ 50
  · have HWd : Hid (∀ u, Below w.heap.size w u → Calls Try.prog 6 #[.slice a l.length cap, .string ⟨#[]⟩] u fun e w' => ∃ v, e = .returned (.tuple #[.string ⟨(wireB ⟨#[]⟩ l).toArray⟩, v]) ∧ Hrs w' u.heap.size v (wantL l) ∧ Below u.heap.size u w') := fun u hu => wired_any a cap l ⟨#[]⟩ u (ha.below hu) hl50 hcap hcm (by decide) hz
    have q2 := (wire_heard ⟨#[]⟩ (fun y hy => by cases hy) l).2
    have hwl := wire_length ⟨#[]⟩ 809 (by decide) l
    have hT : (⟨(wireB ⟨#[]⟩ l).toArray⟩ : ByteArray).size ≤ 40450 := by
      show (wireB ⟨#[]⟩ l).toArray.size ≤ _
      rw [List.size_toArray]; omega
    have htorn := wire_torn l
    obtain ⟨t, ht⟩ : ∃ t : ByteArray, ⟨(wireB ⟨#[]⟩ l).toArray⟩ = t := ⟨_, rfl⟩
    rw [ht] at q2 hT HWd htorn
    have hMl := want_length l
    obtain ⟨M, hM⟩ : ∃ M, wantL l = M := ⟨_, rfl⟩
    rw [hM] at HWd htorn hMl
    have g3 : ¬ (50 < (l.length : Int)) := by omega
    clear ha hz hcm hwl ht hM
    by_cases hat : 0 ≤ a1 ∧ a1 ≤ t.size
    · obtain ⟨k, rfl⟩ := Int.eq_ofNat_of_zero_le hat.1
      have hk : k ≤ t.size := by omega
      obtain ⟨n, hn, e1, e2⟩ := htorn k
      have hxz : (t.extract 0 k).size = k := by rw [ByteArray.size_extract]; omega
      have hnx : nums (t.extract 0 k) = (nums t).take k := by rw [nums_extract, List.drop_zero]
      have hsx : sigB (nums (t.extract 0 k)) = true := by
        rw [hnx]
        unfold sigB at *
        rw [List.all_eq_true] at *
        intro y hy
        exact q2 y (List.mem_of_mem_take hy)
      have hcnt : Lib.countB (t.extract 0 k) ⟨#[48, 48, 74]⟩ = n := by rw [cnt_str, hnx]; exact e2
      rw [← hnx] at e1
      obtain ⟨x, hx⟩ : ∃ x, t.extract 0 k = x := ⟨_, rfl⟩
      rw [hx] at hxz hsx hcnt e1
      obtain ⟨q, hq⟩ : ∃ q, strOfNums (hearL [] (nums x)).2 = q := ⟨_, rfl⟩
      have HH : Hid (∀ w, Calls Try.prog 7 #[ear ⟨#[]⟩, .string x] w fun e w' => ∃ v, e = .returned (.tuple #[ear q, v, .int .i64 0]) ∧ Hrs w' w.heap.size v (M.take n) ∧ Below w.heap.size w w') := fun w => by
        have := hear_ok ⟨#[]⟩ x w (by omega) (by decide) hsx rfl
        have en : nums ⟨#[]⟩ = [] := rfl
        rw [en, e1, hq] at this
        exact this
      have HC : Hid (∀ u, Below w.heap.size w u → Calls Try.prog 8 #[.string x, .string ⟨#[48, 48, 74]⟩] u fun e w' => e = .returned (.int .i64 (n : Int)) ∧ w' = u) := fun u hu => by
        have := Try.strings_Count x ⟨#[48, 48, 74]⟩ m u (by omega) (HM.out u hu) (by decide)
        rw [hcnt] at this
        exact this
      have hnl : (M.take n).length = n := by rw [List.length_take]; omega
      have g1 : ¬ ((k : Int) < 0) := by omega
      have g2 : ¬ ((t.size : Int) < (k : Int)) := by omega
      have g4 : (n : Int) ≤ (M.length : Int) := by omega
      clear htorn q2 e1 e2 hat hnx hsx hcnt hq HM
      go_enter Try.func3, Try.ntmps3
      go_wp2_with fail
      refine (HWd.out _ (Below.refl _ _)).mono ?_
      rintro e u1 ⟨v1, rfl, hr1, hb⟩
      have HB1 : Hid (Below w.heap.size w u1) := hb
      have HR1 : Hid _ := hr1
      clear hb hr1
      go_wp2_with fail
      refine (HH.out _).mono ?_
      rintro e u2 ⟨v2, rfl, hr2, hb⟩
      have HB2 : Hid (Below w.heap.size w (u2.alloc (.cells #[.string q] 28))) := bsq (bsq HB1.out hb) (balloc u2 _)
      have HR2 : Hid _ := Hrs.below (Hrs.below HR1.out hb) (balloc u2 (.cells #[.string q] 28))
      have HS2 : Hid _ := Hrs.below hr2 (balloc u2 (.cells #[.string q] 28))
      clear hb HB1 HR1 hr2
      go_wp2_with fail
      refine (HC.out _ HB2.out).mono ?_
      rintro e u ⟨rfl, rfl⟩
      go_wp2_with fail
      refine (HL.out _).mono ?_
      rintro e u3 ⟨rfl, hb⟩
      have HB3 : Hid (Below w.heap.size w u3) := bsq HB2.out hb
      obtain ⟨b3, c3, rfl, m3, l3, f3⟩ := Hrs.form (Hrs.below HS2.out hb)
      have hr6 := Hrs.below HR2.out hb
      obtain ⟨b6, c6, e6, m6, l6, f6⟩ := Hrs.form hr6
      have hway : (v1 = .slice none 0 0 ∧ M.length = 0) ∨ ∃ g, b6 = some ⟨g, 0, none⟩ := by
        rcases hr6.2 with h | ⟨g, cap', cur, hv, _⟩
        · exact .inl h
        · right
          rw [e6] at hv
          injection hv with h1 h2 h3
          exact ⟨g, h1⟩
      subst e6
      have he := equal_any b3 b6 c3 c6 (M.take n) u3 f3 (front f6 n) m3 m6 l3 (by rw [hnl]; omega)
      rw [hnl] at he ⊢
      have HE : Hid (Calls Try.prog 9 #[.slice b3 n c3, .slice b6 n c6] u3 fun e w' => e = .returned (.bool true) ∧ Below u3.heap.size u3 w') := he
      have m6' : c6 ≤ 9223372036854775807 := m6
      clear hb HB2 HR2 HS2 m3 l3 f3 f6 hr6 he m6
      rcases hway with ⟨h1, h2⟩ | ⟨g, rfl⟩
      · obtain rfl : n = 0 := by omega
        injection h1 with h3 h4 h5
        subst h3 h5
        have hM0 : M = [] := List.eq_nil_of_length_eq_zero h2
        subst hM0
        clear h2 h4 l6 hMl hn hnl g4
        go_wp2_with fail
        refine HE.out.mono ?_
        rintro e u4 ⟨rfl, hb⟩
        have HB4 : Hid (Below w.heap.size w u4) := bsq HB3.out hb
        clear hb HB3 HE
        go_wp2
        go_ret
        exact ⟨rfl, HB4.out⟩
      · go_wp2_with fail
        refine HE.out.mono ?_
        rintro e u4 ⟨rfl, hb⟩
        have HB4 : Hid (Below w.heap.size w u4) := bsq HB3.out hb
        clear hb HB3 HE
        go_wp2
        go_ret
        exact ⟨rfl, HB4.out⟩
    · have hcase : (a1 < 0) ∨ (¬ a1 < 0 ∧ (t.size : Int) < a1) := by omega
      clear htorn q2 hat HM
      rcases hcase with h1 | ⟨h1, h2⟩
      all_goals
        go_enter Try.func3, Try.ntmps3
        go_wp2_with fail
        refine (HWd.out _ (Below.refl _ _)).mono ?_
        rintro e u1 ⟨v1, rfl, hr1, hb⟩
        have HB1 : Hid (Below w.heap.size w u1) := hb
        clear hb hr1
        go_wp2_with fail
        refine (HL.out _).mono ?_
        rintro e u ⟨rfl, hb⟩
        have HB2 : Hid (Below w.heap.size w u) := bsq HB1.out hb
        clear hb HB1
        go_wp2
        go_ret
        exact ⟨rfl, HB2.out⟩
  · have h3 : 50 < (l.length : Int) := by omega
    clear ha hz hl50
    go_enter Try.func3, Try.ntmps3
    go_wp2_with fail
    refine (HL.out _).mono ?_
    rintro e u ⟨rfl, hb⟩
    go_wp2
    go_ret
    exact ⟨rfl, hb⟩
end Go.Proofs.Ytbkdalgmhmaofab.phyTorn
