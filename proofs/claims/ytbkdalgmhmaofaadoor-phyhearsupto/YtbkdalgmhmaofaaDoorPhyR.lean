/- plugref's phy: what Piece answers. -/
import Derived.Test.YtbkdalgmhmaofaaDoorPhyB
import Derived.Test.YtbkdalgmhmaofaaDoorLaneU
import Derived.Test.YtbkdalgmhmaofaaDoorLaneV
namespace Go.Proofs.YtbkdalgmhmaofaaDoor.lane
open Go.RowKit Go.PlainAid
set_option linter.unusedVariables false

theorem unturn_take (v : List Int) : ∀ (c : Int) (n : Nat), unturnL c (v.take n) = (unturnL c v).take n := by
  induction v with
  | nil => intro c n; simp [unturnL]
  | cons x r ih =>
    intro c n
    cases n with
    | zero => simp [unturnL]
    | succ n => simp [unturnL, ih]
theorem levB_take (v : List Int) (n : Nat) (h : levB v = true) : levB (v.take n) = true := by
  unfold levB at *
  rw [List.all_eq_true] at *
  intro x hx
  exact h x (List.mem_of_mem_take hx)
theorem lead_iff (v : List Int) (h : levB v = true) : v.take 8 = [75, 74, 75, 74, 75, 74, 75, 75] ↔ (unturnL 74 v).take 8 = leadL := by
  rw [← unturn_take]
  constructor
  · intro e; rw [e]; decide
  · intro e
    have := turn_unturn 74 (v.take 8) rfl (levB_take v 8 h)
    rw [e] at this
    rw [← this]; decide
theorem lead_short (v : List Int) (h : v.length < 8) : ¬ (unturnL 74 v).take 8 = leadL := by
  intro c
  have := congrArg List.length c
  rw [List.length_take, unturnL_length] at this
  have e : leadL.length = 8 := rfl
  omega

set_option maxHeartbeats 2000000 in
theorem rpiece_any (s : ByteArray) (w : World) (m : Int) (hm : w.cell? ⟨0, 0, none⟩ = some (.int .i64 m)) (hs : s.size ≤ 1048576) :
    Calls Tryd.prog 22 #[.string s] w fun e w' => e = .returned (.tuple #[.string (pieceS s), .int .i64 (pieceC s)]) ∧ Below w.heap.size w w' := by
  have hlow : 0 < w.heap.size := World.block_lt_of_cell? w _ hm
  have HM : Hid (∀ u : World, Below w.heap.size w u → u.cell? ⟨0, 0, none⟩ = some (.int .i64 m)) := fun u hb => (hb.cell (p := ⟨0, 0, none⟩) hlow).trans hm
  clear hm hlow
  unfold pieceS pieceC
  have HO : Hid (∀ w, Calls Tryd.prog 19 #[.string s, .string ⟨#[74, 75]⟩] w fun e w' => e = .returned (.bool (levB (nums s))) ∧ w = w') := fun w => only_lev s w (by unfold maxLen; omega)
  cases hl : levB (nums s)
  · rw [piece_form hl]
    rw [hl] at HO
    clear hl
    go_enter Tryd.func22, Tryd.ntmps22
    go_wp2_with fail
    refine (HO.out _).mono ?_
    rintro e u ⟨rfl, rfl⟩
    go_wp2
    go_ret2
    exact ⟨rfl, Below.refl _ _⟩
  · rw [hl] at HO
    by_cases h2 : (unturnL 74 (nums s)).take 8 = leadL
    · have h8 : 8 ≤ s.size := by
        rcases Nat.lt_or_ge s.size 8 with q | q
        · exact absurd h2 (lead_short _ (by rw [nums_length]; exact q))
        · exact q
      have hx8 : s.extract 0 8 = ⟨#[75, 74, 75, 74, 75, 74, 75, 75]⟩ := by
        apply nums_inj
        rw [nums_extract, List.drop_zero, (lead_iff _ hl).2 h2]; rfl
      have H : Hid (∀ w, Calls Tryd.prog 41 #[.string s, .int .u8 74] w fun e w' => e = .returned (.tuple #[.string (strOfNums (unturnL 74 (nums s))), .int .i64 0]) ∧ Below w.heap.size w w') := fun w => runturn_ok s 74 w (by omega) hl rfl
      have ed : nums (strOfNums (unturnL 74 (nums s))) = unturnL 74 (nums s) := nums_str _ (byt_row (rowB_unturn _ _))
      have hz : (strOfNums (unturnL 74 (nums s))).size = s.size := by rw [str_size, unturnL_length, nums_length]
      obtain ⟨d, hd⟩ : ∃ d, strOfNums (unturnL 74 (nums s)) = d := ⟨_, rfl⟩
      rw [hd] at H ed hz
      clear hd
      have hrow : rowB (nums d) = true := by rw [ed]; exact rowB_unturn _ _
      have HU : Hid (∀ u, Below w.heap.size w u → Calls Tryd.prog 42 #[.string d] u fun e w' => e = .returned (.tuple #[.string (strOfNums (unstuffS (unturnL 74 (nums s)))), .int .i64 (unstuffL 0 (unturnL 74 (nums s))).1]) ∧ Below u.heap.size u w') := fun u hu => by
        have := runstuff_ok d u m (HM.out u hu) (by omega) hrow
        rw [ed] at this
        exact this
      by_cases h3 : (unstuffL 0 (unturnL 74 (nums s))).1 = 0
      · have eu : unstuffS (unturnL 74 (nums s)) = plainL (nums s) := by unfold unstuffS plainL; rw [if_pos h3]
        obtain ⟨p1, p2⟩ := plain_lead (nums s) h2
        have hrp : rowB (plainL (nums s)) = true := ((stuff_unstuff (unturnL 74 (nums s)) (rowB_unturn _ _)).1 0 (by omega) h3).2
        rw [eu, h3] at HU
        have en : nums (strOfNums (plainL (nums s))) = plainL (nums s) := nums_str _ (byt_row hrp)
        have hz2 : (strOfNums (plainL (nums s))).size ≤ s.size := by
          rw [str_size]
          have := unstuffL_length 0 (unturnL 74 (nums s))
          rw [unturnL_length, nums_length] at this
          exact this
        have hz3 : 8 ≤ (strOfNums (plainL (nums s))).size := by
          rw [str_size, p1, List.length_append]
          exact Nat.le_add_right _ _
        obtain ⟨p, hp⟩ : ∃ p, strOfNums (plainL (nums s)) = p := ⟨_, rfl⟩
        rw [hp] at HU en hz2 hz3
        clear hp
        have eq : nums (p.extract 8 p.size) = (plainL (nums s)).drop 8 := by
          rw [nums_extract, en, ← en, ← nums_length p, List.take_length]
        have hqz : (p.extract 8 p.size).size = ((plainL (nums s)).drop 8).length := by rw [← nums_length, eq]
        obtain ⟨q, hq⟩ : ∃ q, p.extract 8 p.size = q := ⟨_, rfl⟩
        rw [hq] at eq hqz
        have hrq : rowB (nums q) = true := by rw [eq, p2]; exact hrp
        have hqs : q.size ≤ s.size := by
          rw [hqz, List.length_drop, ← en, nums_length]; omega
        by_cases h4 : ((plainL (nums s)).drop 8).length % 8 = 0
        · have HB : Hid (∀ w, Calls Tryd.prog 43 #[.string q] w fun e w' => e = .returned (.tuple #[.string (strOfNums (bytesL ((plainL (nums s)).drop 8))), .int .i64 0]) ∧ Below w.heap.size w w') := fun w => by
            have := rbytes_ok q w (by omega) hrq (by rw [hqz]; exact h4)
            rw [eq] at this
            exact this
          have ht : (strOfNums (bytesL ((plainL (nums s)).drop 8))).size = ((plainL (nums s)).drop 8).length / 8 := by rw [str_size, bytesL_length]
          have hcase : (pieceL (nums s) = (0, bytesL ((plainL (nums s)).drop 8)) ∧ 1 ≤ ((plainL (nums s)).drop 8).length / 8 ∧ ((plainL (nums s)).drop 8).length / 8 ≤ 80) ∨ (pieceL (nums s) = (3, []) ∧ ((plainL (nums s)).drop 8).length / 8 = 0) ∨ (pieceL (nums s) = (2, []) ∧ 80 < ((plainL (nums s)).drop 8).length / 8) := by
            rcases sized_cases (((plainL (nums s)).drop 8).length / 8) with ⟨z, z1, z2⟩ | ⟨z, z1⟩
            · exact .inl ⟨piece_ok hl h2 h3 h4 z, z1, z2⟩
            · right
              rw [piece_size hl h2 h3 h4 z]
              rcases z1 with z1 | z1
              · left; refine ⟨?_, z1⟩; rw [z1]; rfl
              · right; refine ⟨?_, z1⟩; unfold sizedL; rw [if_neg (by omega), if_pos z1]
          obtain ⟨t, hT⟩ : ∃ t, strOfNums (bytesL ((plainL (nums s)).drop 8)) = t := ⟨_, rfl⟩
          rw [hT] at HB ht
          rw [← ht] at hcase
          clear hl h2 h3 h4 eu p1 p2 hrp en eq hqz hrq hrow ed
          rcases hcase with ⟨e, z1, z2⟩ | ⟨e, z1⟩ | ⟨e, z1⟩
          · rw [e]
            show Calls _ _ _ _ fun e w' => e = .returned (.tuple #[.string (strOfNums (bytesL ((plainL (nums s)).drop 8))), .int .i64 0]) ∧ _
            rw [hT]
            have hf := str_full t (by omega)
            clear hT ht e
            go_enter Tryd.func22, Tryd.ntmps22
            go_wp2_with fail
            refine (HO.out _).mono ?_
            rintro e u ⟨rfl, rfl⟩
            go_wp2_with fail
            refine (H.out _).mono ?_
            rintro e u ⟨rfl, hb⟩
            go_wp2_with fail
            refine (HU.out _ hb).mono ?_
            rintro e u2 ⟨rfl, hb2⟩
            replace hb := bsq hb hb2
            clear hb2
            go_wp2_with fail
            refine (HB.out _).mono ?_
            rintro e u3 ⟨rfl, hb2⟩
            replace hb := bsq hb hb2
            clear hb2
            go_wp2
            go_ret2
            exact ⟨rfl, hb⟩
          · rw [e]
            obtain rfl := str_nil t z1
            clear hT ht e
            go_enter Tryd.func22, Tryd.ntmps22
            go_wp2_with fail
            refine (HO.out _).mono ?_
            rintro e u ⟨rfl, rfl⟩
            go_wp2_with fail
            refine (H.out _).mono ?_
            rintro e u ⟨rfl, hb⟩
            go_wp2_with fail
            refine (HU.out _ hb).mono ?_
            rintro e u2 ⟨rfl, hb2⟩
            replace hb := bsq hb hb2
            clear hb2
            go_wp2_with fail
            refine (HB.out _).mono ?_
            rintro e u3 ⟨rfl, hb2⟩
            replace hb := bsq hb hb2
            clear hb2
            go_wp2
            go_ret2
            exact ⟨rfl, hb⟩
          · rw [e]
            have hf := str_full t (by omega)
            have htz : t.size ≤ 1048576 := by
              rw [ht, List.length_drop]
              have := unstuffL_length 0 (unturnL 74 (nums s))
              rw [unturnL_length, nums_length] at this
              unfold plainL
              omega
            clear hT ht e
            go_enter Tryd.func22, Tryd.ntmps22
            go_wp2_with fail
            refine (HO.out _).mono ?_
            rintro e u ⟨rfl, rfl⟩
            go_wp2_with fail
            refine (H.out _).mono ?_
            rintro e u ⟨rfl, hb⟩
            go_wp2_with fail
            refine (HU.out _ hb).mono ?_
            rintro e u2 ⟨rfl, hb2⟩
            replace hb := bsq hb hb2
            clear hb2
            go_wp2_with fail
            refine (HB.out _).mono ?_
            rintro e u3 ⟨rfl, hb2⟩
            replace hb := bsq hb hb2
            clear hb2
            go_wp2
            go_ret2
            exact ⟨rfl, hb⟩
        · rw [piece_odd hl h2 h3 h4]
          have HB : Hid (∀ w, Calls Tryd.prog 43 #[.string q] w fun e w' => e = .returned (.tuple #[.string ⟨#[]⟩, .int .i64 4]) ∧ Below w.heap.size w w') := fun w => rbytes_odd q w (by omega) hrq (by rw [hqz]; exact h4)
          clear hl h2 h3 h4 eu p1 p2 hrp en eq hqz hrq hrow ed
          go_enter Tryd.func22, Tryd.ntmps22
          go_wp2_with fail
          refine (HO.out _).mono ?_
          rintro e u ⟨rfl, rfl⟩
          go_wp2_with fail
          refine (H.out _).mono ?_
          rintro e u ⟨rfl, hb⟩
          go_wp2_with fail
          refine (HU.out _ hb).mono ?_
          rintro e u2 ⟨rfl, hb2⟩
          replace hb := bsq hb hb2
          clear hb2
          go_wp2_with fail
          refine (HB.out _).mono ?_
          rintro e u3 ⟨rfl, hb2⟩
          replace hb := bsq hb hb2
          clear hb2
          go_wp2
          go_ret2
          exact ⟨rfl, hb⟩
      · rw [piece_stuff hl h2 h3]
        show Calls _ _ _ _ fun e w' => e = .returned (.tuple #[.string ⟨#[]⟩, .int .i64 (unstuffL 0 (unturnL 74 (nums s))).1]) ∧ _
        have hne : (((unstuffL 0 (unturnL 74 (nums s))).1 != 0) = true) := by simpa using h3
        obtain ⟨c, hc⟩ : ∃ c, (unstuffL 0 (unturnL 74 (nums s))).1 = c := ⟨_, rfl⟩
        obtain ⟨p, hp⟩ : ∃ p, strOfNums (unstuffS (unturnL 74 (nums s))) = p := ⟨_, rfl⟩
        rw [hc] at HU hne ⊢
        rw [hp] at HU
        clear hc hp h3 h2 hl hrow ed
        go_enter Tryd.func22, Tryd.ntmps22
        go_wp2_with fail
        refine (HO.out _).mono ?_
        rintro e u ⟨rfl, rfl⟩
        go_wp2_with fail
        refine (H.out _).mono ?_
        rintro e u ⟨rfl, hb⟩
        go_wp2_with fail
        refine (HU.out _ hb).mono ?_
        rintro e u2 ⟨rfl, hb2⟩
        replace hb := bsq hb hb2
        clear hb2
        go_wp2
        go_ret2
        exact ⟨rfl, hb⟩
    · rw [piece_sync hl h2]
      by_cases h8 : 8 ≤ s.size
      · have hx8 : ((s.extract 0 8).toList == ([75, 74, 75, 74, 75, 74, 75, 75] : List UInt8)) = false := by
          have e8 : ([75, 74, 75, 74, 75, 74, 75, 75] : List UInt8) = (⟨#[75, 74, 75, 74, 75, 74, 75, 75]⟩ : ByteArray).toList := by rw [ByteArray.toList_eq]
          rw [e8, toList_beq]
          apply decide_eq_false
          intro c
          apply h2
          apply (lead_iff _ hl).1
          have := congrArg nums c
          rwa [nums_extract, List.drop_zero] at this
        clear hl h2
        go_enter Tryd.func22, Tryd.ntmps22
        go_wp2_with fail
        refine (HO.out _).mono ?_
        rintro e u ⟨rfl, rfl⟩
        go_wp2
        go_ret2
        exact ⟨rfl, Below.refl _ _⟩
      · clear hl h2
        go_enter Tryd.func22, Tryd.ntmps22
        go_wp2_with fail
        refine (HO.out _).mono ?_
        rintro e u ⟨rfl, rfl⟩
        go_wp2
        go_ret2
        exact ⟨rfl, Below.refl _ _⟩
end Go.Proofs.YtbkdalgmhmaofaaDoor.lane
