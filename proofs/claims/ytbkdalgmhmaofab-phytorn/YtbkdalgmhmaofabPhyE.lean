/- phy: what CutSuffix and heard answer. -/
import Derived.Test.YtbkdalgmhmaofabPhyD
import Derived.Lib.SmallJoins
namespace Go.Proofs.Ytbkdalgmhmaofab.lane
open Go.RowKit Go.PlainAid
set_option linter.unusedVariables false

theorem balloc (w : World) (o : Obj) : Below w.heap.size w (w.alloc o) := (Below.refl _ _).alloc (Nat.le_refl _) _
set_option maxHeartbeats 1000000 in
theorem cutSuffix_yes (g m cap B c : Nat) (acc : List Int) (w : World) (h : Hd w g (m + 3) cap acc) (hs : sigB acc = true) (hB : (convert 41 9 (.slice (some ⟨B, 0, none⟩) 3 c)).run Try.prog w = .ok (.string ⟨#[48, 48, 74]⟩) w) (he : endsL acc = true) :
    Calls Try.prog 28 #[.slice (some ⟨g, 0, none⟩) (m + 3) cap, .slice (some ⟨B, 0, none⟩) 3 c] w fun e w' => e = .returned (.tuple #[.slice (some ⟨g, 0, none⟩) m cap, .bool true]) ∧ w = w' := by
  have H : Hid (Calls Try.prog 39 #[.slice (some ⟨g, 0, none⟩) (m + 3) cap, .slice (some ⟨B, 0, none⟩) 3 c] w fun e w' => e = .returned (.bool true) ∧ w = w') := by
    have := hasSuffix_any g (m + 3) cap B c acc w h hs hB
    rw [he] at this
    exact this
  have hle := h.le
  have hmx := h.max
  unfold maxLen at hmx
  clear h hs hB he
  go_enter Try.func28, Try.ntmps28
  go_wp2_with fail
  refine H.out.mono ?_
  rintro r u ⟨rfl, rfl⟩
  go_wp2
  go_ret2
  exact ⟨rfl, rfl⟩
set_option maxHeartbeats 1000000 in
theorem cutSuffix_no (g n cap B c : Nat) (acc : List Int) (w : World) (h : Hd w g n cap acc) (hs : sigB acc = true) (hB : (convert 41 9 (.slice (some ⟨B, 0, none⟩) 3 c)).run Try.prog w = .ok (.string ⟨#[48, 48, 74]⟩) w) (he : endsL acc = false) :
    Calls Try.prog 28 #[.slice (some ⟨g, 0, none⟩) n cap, .slice (some ⟨B, 0, none⟩) 3 c] w fun e w' => e = .returned (.tuple #[.slice (some ⟨g, 0, none⟩) n cap, .bool false]) ∧ w = w' := by
  have H : Hid (Calls Try.prog 39 #[.slice (some ⟨g, 0, none⟩) n cap, .slice (some ⟨B, 0, none⟩) 3 c] w fun e w' => e = .returned (.bool false) ∧ w = w') := by
    have := hasSuffix_any g n cap B c acc w h hs hB
    rw [he] at this
    exact this
  clear h hs hB he
  go_enter Try.func28, Try.ntmps28
  go_wp2_with fail
  refine H.out.mono ?_
  rintro r u ⟨rfl, rfl⟩
  go_wp2
  go_ret2
  exact ⟨rfl, rfl⟩

/-- what was heard, as a value; and its cells -/
abbrev hrd (t : ByteArray) (c : Int) : Value := .agg #[.string t, .int .i64 c]
/-- three signs in a block of their own -/
abbrev end3 (w : World) : World := (w.alloc (.cells #[.string ⟨#[]⟩, .int .i64 0] 35)).alloc (.cells #[.int .u8 48, .int .u8 48, .int .u8 74] 5 (3, 4))
theorem end3_conv (w : World) : (convert 41 9 (.slice (some ⟨w.heap.size + 1, 0, none⟩) 3 3)).run Try.prog (end3 w) = .ok (.string ⟨#[48, 48, 74]⟩) (end3 w) := by
  have := run_convert_bytes_arg (P := Try.prog) (end3 w) 41 5 Try.underlying41 Try.underlying5 (w.heap.size + 1) 0 3 3 [48, 48, 74] rfl ?_ 9 Try.underlying9
  · exact this
  · intro i hi
    rw [Nat.zero_add, Joins.cell_alloc_mark_at _ _ _ _ _ _ (by simp)]
    match i, hi with
    | 0, _ => rfl
    | 1, _ => rfl
    | 2, _ => rfl
theorem end3_made (w : World) : (convert 41 41 (.slice (some ⟨w.heap.size + 1, 0, none⟩) 3 3)).run Try.prog ((w.alloc (.cells #[.string ⟨#[]⟩, .int .i64 0] 35)).alloc (.cells #[.int .u8 48, .int .u8 48, .int .u8 74] 5)) = .ok (.slice (some ⟨w.heap.size + 1, 0, none⟩) 3 3) (end3 w) :=
  Joins.run_convert_bytes_const_at (P := Try.prog) (w.alloc (.cells #[.string ⟨#[]⟩, .int .i64 0] 35)) 41 5 #[.int .u8 48, .int .u8 48, .int .u8 74] 3 3 (w.heap.size + 1) (by simp) Try.underlying41 Try.underlying5
theorem end3_res (w : World) : (end3 w).cell? ⟨w.heap.size, 0, none⟩ = some (.string ⟨#[]⟩) ∧ (end3 w).cell? ⟨w.heap.size, 1, none⟩ = some (.int .i64 0) ∧
    (end3 w).frozen? ⟨w.heap.size, 0, none⟩ = false ∧ (end3 w).frozen? ⟨w.heap.size, 1, none⟩ = false := by
  have hb := balloc (w.alloc (.cells #[.string ⟨#[]⟩, .int .i64 0] 35)) (.cells #[.int .u8 48, .int .u8 48, .int .u8 74] 5 (3, 4))
  have hl : w.heap.size < (w.alloc (.cells #[.string ⟨#[]⟩, .int .i64 0] 35)).heap.size := by simp
  refine ⟨(hb.cell hl).trans ?_, (hb.cell hl).trans ?_, (hb.frozen hl).trans ?_, (hb.frozen hl).trans ?_⟩ <;> go_simp
theorem end3_below (w : World) : Below w.heap.size w (end3 w) := (balloc w _).alloc (by simp) _

set_option maxHeartbeats 1000000 in
theorem heard_end_any (g m cap : Nat) (acc : List Int) (w : World) (h : Hd w g (m + 3) cap acc) (hs : sigB acc = true) (hn : m ≤ 281474976710656) (he : endsL acc = true) :
    Calls Try.prog 15 #[.slice (some ⟨g, 0, none⟩) (m + 3) cap] w fun e w' => e = .returned (.tuple #[hrd (strOfNums (pieceL (acc.take m)).2) (pieceL (acc.take m)).1, .bool true]) ∧ Below w.heap.size w w' := by
  have H2 := h.below (end3_below w) h.lt
  have HC : Hid (Calls Try.prog 28 #[.slice (some ⟨g, 0, none⟩) (m + 3) cap, .slice (some ⟨w.heap.size + 1, 0, none⟩) 3 3] (end3 w) fun e w' => e = .returned (.tuple #[.slice (some ⟨g, 0, none⟩) m cap, .bool true]) ∧ end3 w = w') := cutSuffix_yes g m cap (w.heap.size + 1) 3 acc (end3 w) H2 hs (end3_conv w) he
  have hcv := H2.part 0 m cap (by omega)
  rw [List.drop_zero] at hcv
  have hz : (strOfNums (acc.take m)).size ≤ 281474976710656 := by rw [str_size, List.length_take]; omega
  have hb2 : Byt (acc.take m) := fun x hx => byt_sig hs x (List.mem_of_mem_take hx)
  have HP : Hid (∀ w, Calls Try.prog 11 #[.string (strOfNums (acc.take m))] w fun e w' => e = .returned (.tuple #[.string (strOfNums (pieceL (acc.take m)).2), .int .i64 (pieceL (acc.take m)).1]) ∧ Below w.heap.size w w') := fun w => by
    have := piece_any (strOfNums (acc.take m)) w hz
    unfold pieceS pieceC at this
    rw [nums_str _ hb2] at this
    exact this
  generalize strOfNums (pieceL (acc.take m)).2 = t at HP ⊢
  generalize (pieceL (acc.take m)).1 = c at HP ⊢
  obtain ⟨q, hq⟩ : ∃ q, strOfNums (acc.take m) = q := ⟨_, rfl⟩
  rw [hq] at HP hcv
  have HV : Hid _ := hcv
  have hE : Hid (Below w.heap.size w (end3 w)) := end3_below w
  clear h hs he hb2 hz hq hcv H2
  have hmk := end3_made w
  go_enter Try.func15, Try.ntmps15
  go_wp2_with fail
  refine HC.out.mono ?_
  rintro r u ⟨rfl, hu⟩
  have e1 : (end3 w).heap.size = w.heap.size + 2 := by simp
  obtain ⟨c0, c1, f0, f1⟩ := end3_res w
  have hv := HV.out
  have he := hE.out
  rw [hu] at e1 c0 c1 f0 f1 hv he
  have HE : Hid _ := he
  clear hu HV hE HC he
  go_wp2_with fail
  refine (HP.out _).mono ?_
  rintro r u2 ⟨rfl, hb⟩
  have c0' : u2.cell? ⟨w.heap.size, 0, none⟩ = some (.string ⟨#[]⟩) := (hb.cell (p := ⟨w.heap.size, 0, none⟩) (by show w.heap.size < _; omega)).trans c0
  have c1' : u2.cell? ⟨w.heap.size, 1, none⟩ = some (.int .i64 0) := (hb.cell (p := ⟨w.heap.size, 1, none⟩) (by show w.heap.size < _; omega)).trans c1
  have f0' : u2.frozen? ⟨w.heap.size, 0, none⟩ = false := (hb.frozen (p := ⟨w.heap.size, 0, none⟩) (by show w.heap.size < _; omega)).trans f0
  have f1' : u2.frozen? ⟨w.heap.size, 1, none⟩ = false := (hb.frozen (p := ⟨w.heap.size, 1, none⟩) (by show w.heap.size < _; omega)).trans f1
  have HB : Hid (Below w.heap.size w u2) := HE.out.trans (hb.mono (by omega))
  clear hb HE c0 c1 f0 f1 hv e1
  go_wp2
  exact bodyPost_ret (v := .tuple #[hrd t c, .bool true]) (by simp [results, Try.results15, go_sem, c0', c1']) rfl ⟨rfl, (HB.out.setCell (Nat.le_refl _) _).setCell (Nat.le_refl _) _⟩

set_option maxHeartbeats 1000000 in
theorem heard_long_any (g n cap : Nat) (acc : List Int) (w : World) (h : Hd w g n cap acc) (hs : sigB acc = true) (he : endsL acc = false) (b : Bool) (c : Int) (hb : (b = true ∧ 1000 < n ∧ c = 2) ∨ (b = false ∧ n ≤ 1000 ∧ c = 0)) :
    Calls Try.prog 15 #[.slice (some ⟨g, 0, none⟩) n cap] w fun e w' => e = .returned (.tuple #[hrd ⟨#[]⟩ c, .bool b]) ∧ Below w.heap.size w w' := by
  have H2 := h.below (end3_below w) h.lt
  have HC : Hid (Calls Try.prog 28 #[.slice (some ⟨g, 0, none⟩) n cap, .slice (some ⟨w.heap.size + 1, 0, none⟩) 3 3] (end3 w) fun e w' => e = .returned (.tuple #[.slice (some ⟨g, 0, none⟩) n cap, .bool false]) ∧ end3 w = w') := cutSuffix_no g n cap (w.heap.size + 1) 3 acc (end3 w) H2 hs (end3_conv w) he
  have hE : Hid (Below w.heap.size w (end3 w)) := end3_below w
  have hle := h.le
  have hmx := h.max
  unfold maxLen at hmx
  clear h hs he H2
  have hmk := end3_made w
  rcases hb with ⟨rfl, hb, rfl⟩ | ⟨rfl, hb, rfl⟩
  · go_enter Try.func15, Try.ntmps15
    go_wp2_with fail
    refine HC.out.mono ?_
    rintro r u ⟨rfl, hu⟩
    obtain ⟨c0, c1, f0, f1⟩ := end3_res w
    have he := hE.out
    rw [hu] at c0 c1 f0 f1 he
    have HE : Hid _ := he
    clear hu hE HC he hmk
    go_wp2
    exact bodyPost_ret (v := .tuple #[hrd ⟨#[]⟩ 2, .bool true]) (by simp [results, Try.results15, go_sem, c0, c1]) rfl ⟨rfl, (HE.out.setCell (Nat.le_refl _) _).setCell (Nat.le_refl _) _⟩
  · go_enter Try.func15, Try.ntmps15
    go_wp2_with fail
    refine HC.out.mono ?_
    rintro r u ⟨rfl, hu⟩
    obtain ⟨c0, c1, f0, f1⟩ := end3_res w
    have he := hE.out
    rw [hu] at c0 c1 f0 f1 he
    have HE : Hid _ := he
    clear hu hE HC he hmk
    go_wp2
    exact bodyPost_ret (v := .tuple #[hrd ⟨#[]⟩ 0, .bool false]) (by simp [results, Try.results15, go_sem, c0, c1]) rfl ⟨rfl, (HE.out.setCell (Nat.le_refl _) _).setCell (Nat.le_refl _) _⟩
/-- what heard answers where the levels are at an end -/
theorem heard_some_any (g n cap : Nat) (acc : List Int) (p : List Int × Int) (w : World) (h : Hd w g n cap acc) (hs : sigB acc = true) (hn : n ≤ 281474976710656) (hp : heardL acc = some p) :
    Calls Try.prog 15 #[.slice (some ⟨g, 0, none⟩) n cap] w fun e w' => e = .returned (.tuple #[hrd (strOfNums p.1) p.2, .bool true]) ∧ Below w.heap.size w w' := by
  have hl := h.len
  cases he : endsL acc
  · unfold heardL at hp
    rw [he, if_neg (by simp)] at hp
    split at hp
    · cases hp
      exact heard_long_any g n cap acc w h hs he true 2 (.inl ⟨rfl, by omega, rfl⟩)
    · cases hp
  · have h3 : 3 ≤ acc.length := by
      unfold endsL at he
      rw [Bool.and_eq_true] at he
      exact of_decide_eq_true he.1
    obtain ⟨m, rfl⟩ : ∃ m, n = m + 3 := ⟨n - 3, by omega⟩
    have := heard_end_any g m cap acc w h hs (by omega) he
    unfold heardL at hp
    rw [he, if_pos rfl, hl, show m + 3 - 3 = m by omega] at hp
    cases hp
    exact this
theorem heard_none_any (g n cap : Nat) (acc : List Int) (w : World) (h : Hd w g n cap acc) (hs : sigB acc = true) (hp : heardL acc = none) :
    Calls Try.prog 15 #[.slice (some ⟨g, 0, none⟩) n cap] w fun e w' => e = .returned (.tuple #[hrd ⟨#[]⟩ 0, .bool false]) ∧ Below w.heap.size w w' := by
  have hl := h.len
  unfold heardL at hp
  split at hp
  · cases hp
  · rename_i he
    split at hp
    · cases hp
    · exact heard_long_any g n cap acc w h hs (by simpa using he) false 0 (.inr ⟨rfl, by omega, rfl⟩)
end Go.Proofs.Ytbkdalgmhmaofab.lane
