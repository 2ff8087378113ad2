/- packet: what Check answers. -/
import Derived.Test.YtepifjimfcnggaaPackA
namespace Go.Proofs.Ytepifjimfcnggaa.pack
open Go.RowKit Go.PlainAid Go.Proofs.Ytepifjimfcnggaa.lane Go.Proofs.Ytepifjimfcnggaa.crc

theorem below_placed (k a e f : Int) (d : ByteArray) (a' e' f' : Int) (d' : ByteArray) (w : World) (o : Obj) : Below w.heap.size w (wplaced k a e f d a' e' f' d' (w.alloc o).drew) := by
  have h1 : Below w.heap.size w (w.alloc o).drew := ((Below.refl _ _).alloc (Nat.le_refl _) _).drew
  have h2 := h1.alloc (by simp) (pcells k a e f d)
  exact h2.alloc (by simp; omega) (pcells k a' e' f' d')
theorem cells_placed (k a e f : Int) (d : ByteArray) (a' e' f' : Int) (d' : ByteArray) (w u : World) (hu : wplaced k a e f d a' e' f' d' (w.alloc (pcells k a e f d)).drew = u) :
    u.cell? ⟨w.heap.size, 1, none⟩ = some (.int .i64 a) ∧ u.cell? ⟨w.heap.size, 2, none⟩ = some (.int .i64 e) ∧ u.cell? ⟨w.heap.size, 3, none⟩ = some (.int .i64 f) ∧ u.cell? ⟨w.heap.size, 4, none⟩ = some (.string d) := by
  subst hu
  refine ⟨?_, ?_, ?_, ?_⟩ <;> go_simp
set_option maxHeartbeats 1000000 in
theorem check_none (k a e f : Int) (d : ByteArray) (h : shp k = 0) (w : World) :
    Calls Try.prog 12 #[pk k a e f d] w fun r w' => r = .returned (.int .i64 1) ∧ Below w.heap.size w w' := by
  have HS : Hid (∀ w : World, Calls Try.prog 21 #[.int .i64 k] w fun r w' => r = .returned (.int .i64 0) ∧ w' = w) := by intro w; rw [← h]; exact shape_any k w
  go_enter Try.func12, Try.ntmps12
  go_wp2_with fail
  refine (HS.out _).mono ?_
  rintro r u ⟨rfl, rfl⟩
  go_wp2_with fail
  go_quiet (fail)
  go_wp2
  go_ret
  exact ⟨rfl, below_drewN ((Below.refl _ _).alloc (Nat.le_refl _) _) _⟩
set_option maxHeartbeats 1000000 in
theorem check_plc (k a e f s : Int) (d : ByteArray) (hs : shp k = s) (h0 : (s == 0) = false) (a' e' f' : Int) (d' : ByteArray)
    (HP : Hid (∀ w : World, Calls Try.prog 25 #[pk k a e f d, .int .i64 s] w fun r w' => r = .returned (pk k a' e' f' d') ∧ w' = wplaced k a e f d a' e' f' d' w))
    (h : same k a e f d k a' e' f' d' = false) (w : World) :
    Calls Try.prog 12 #[pk k a e f d] w fun r w' => r = .returned (.int .i64 1) ∧ Below w.heap.size w w' := by
  have HS : Hid (∀ w : World, Calls Try.prog 21 #[.int .i64 k] w fun r w' => r = .returned (.int .i64 s) ∧ w' = w) := by intro w; rw [← hs]; exact shape_any k w
  have hn := neq_pk k a e f d k a' e' f' d'
  rw [h] at hn
  clear hs h
  go_enter Try.func12, Try.ntmps12
  go_wp2_with fail
  refine (HS.out _).mono ?_
  rintro r u ⟨rfl, rfl⟩
  go_wp2_with fail
  go_region_with (go_at_call 25; refine (HP.out _).mono ?_; rintro r u ⟨rfl, rfl⟩)
  all_goals clear hn
  all_goals obtain ⟨u, hu⟩ : ∃ u, wplaced k a e f d a' e' f' d' (w.alloc (pcells k a e f d)).drew = u := ⟨_, rfl⟩
  all_goals have HB : Hid (Below w.heap.size w u) := by rw [← hu]; exact below_placed ..
  all_goals obtain ⟨c1, c2, c3, c4⟩ := cells_placed k a e f d a' e' f' d' w u hu
  all_goals rw [hu]
  all_goals clear hu
  all_goals
    go_wp2
    go_ret
    exact ⟨rfl, HB.out⟩
set_option maxHeartbeats 1000000 in
theorem check_addr (k a e f s : Int) (d : ByteArray) (hs : shp k = s) (h0 : (s == 0) = false) (a' e' f' : Int) (d' : ByteArray)
    (HP : Hid (∀ w : World, Calls Try.prog 25 #[pk k a e f d, .int .i64 s] w fun r w' => r = .returned (pk k a' e' f' d') ∧ w' = wplaced k a e f d a' e' f' d' w))
    (h : same k a e f d k a' e' f' d' = true) (hb : a < 0 ∨ 127 < a) (w : World) :
    Calls Try.prog 12 #[pk k a e f d] w fun r w' => r = .returned (.int .i64 1) ∧ Below w.heap.size w w' := by
  have HS : Hid (∀ w : World, Calls Try.prog 21 #[.int .i64 k] w fun r w' => r = .returned (.int .i64 s) ∧ w' = w) := by intro w; rw [← hs]; exact shape_any k w
  have hn := neq_pk k a e f d k a' e' f' d'
  rw [h] at hn
  have W0 : Hid (∀ w : World, Calls Try.prog 26 #[.int .i64 a, .int .i64 127] w fun r w' => r = .returned (.bool false) ∧ w' = w) := by intro w; have h := within_any a 127 w; rw [show (decide (0 ≤ a) && decide (a ≤ 127)) = false by simp; omega] at h; exact h
  clear hs h
  go_enter Try.func12, Try.ntmps12
  go_wp2_with fail
  refine (HS.out _).mono ?_
  rintro r u ⟨rfl, rfl⟩
  go_wp2_with fail
  go_region_with (go_at_call 25; refine (HP.out _).mono ?_; rintro r u ⟨rfl, rfl⟩)
  all_goals clear hn
  all_goals obtain ⟨u, hu⟩ : ∃ u, wplaced k a e f d a' e' f' d' (w.alloc (pcells k a e f d)).drew = u := ⟨_, rfl⟩
  all_goals have HB : Hid (Below w.heap.size w u) := by rw [← hu]; exact below_placed ..
  all_goals obtain ⟨c1, c2, c3, c4⟩ := cells_placed k a e f d a' e' f' d' w u hu
  all_goals rw [hu]
  all_goals clear hu
  all_goals
    go_wp2_with fail
    refine (W0.out _).mono ?_
    rintro r u ⟨rfl, rfl⟩
    go_wp2
    go_ret
    exact ⟨rfl, HB.out⟩
set_option maxHeartbeats 1000000 in
theorem check_end (k a e f s : Int) (d : ByteArray) (hs : shp k = s) (h0 : (s == 0) = false) (a' e' f' : Int) (d' : ByteArray)
    (HP : Hid (∀ w : World, Calls Try.prog 25 #[pk k a e f d, .int .i64 s] w fun r w' => r = .returned (pk k a' e' f' d') ∧ w' = wplaced k a e f d a' e' f' d' w))
    (h : same k a e f d k a' e' f' d' = true) (hb : 0 ≤ a ∧ a ≤ 127) (hc : e < 0 ∨ 15 < e) (w : World) :
    Calls Try.prog 12 #[pk k a e f d] w fun r w' => r = .returned (.int .i64 1) ∧ Below w.heap.size w w' := by
  have HS : Hid (∀ w : World, Calls Try.prog 21 #[.int .i64 k] w fun r w' => r = .returned (.int .i64 s) ∧ w' = w) := by intro w; rw [← hs]; exact shape_any k w
  have hn := neq_pk k a e f d k a' e' f' d'
  rw [h] at hn
  have W0 : Hid (∀ w : World, Calls Try.prog 26 #[.int .i64 a, .int .i64 127] w fun r w' => r = .returned (.bool true) ∧ w' = w) := by intro w; have h := within_any a 127 w; rw [show (decide (0 ≤ a) && decide (a ≤ 127)) = true by simp; omega] at h; exact h
  have W1 : Hid (∀ w : World, Calls Try.prog 26 #[.int .i64 e, .int .i64 15] w fun r w' => r = .returned (.bool false) ∧ w' = w) := by intro w; have h := within_any e 15 w; rw [show (decide (0 ≤ e) && decide (e ≤ 15)) = false by simp; omega] at h; exact h
  clear hs h
  go_enter Try.func12, Try.ntmps12
  go_wp2_with fail
  refine (HS.out _).mono ?_
  rintro r u ⟨rfl, rfl⟩
  go_wp2_with fail
  go_region_with (go_at_call 25; refine (HP.out _).mono ?_; rintro r u ⟨rfl, rfl⟩)
  all_goals clear hn
  all_goals obtain ⟨u, hu⟩ : ∃ u, wplaced k a e f d a' e' f' d' (w.alloc (pcells k a e f d)).drew = u := ⟨_, rfl⟩
  all_goals have HB : Hid (Below w.heap.size w u) := by rw [← hu]; exact below_placed ..
  all_goals obtain ⟨c1, c2, c3, c4⟩ := cells_placed k a e f d a' e' f' d' w u hu
  all_goals rw [hu]
  all_goals clear hu
  all_goals
    go_wp2_with fail
    refine (W0.out _).mono ?_
    rintro r u ⟨rfl, rfl⟩
    go_wp2_with fail
    refine (W1.out _).mono ?_
    rintro r u ⟨rfl, rfl⟩
    go_wp2
    go_ret
    exact ⟨rfl, HB.out⟩
set_option maxHeartbeats 1000000 in
theorem check_frame (k a e f s : Int) (d : ByteArray) (hs : shp k = s) (h0 : (s == 0) = false) (a' e' f' : Int) (d' : ByteArray)
    (HP : Hid (∀ w : World, Calls Try.prog 25 #[pk k a e f d, .int .i64 s] w fun r w' => r = .returned (pk k a' e' f' d') ∧ w' = wplaced k a e f d a' e' f' d' w))
    (h : same k a e f d k a' e' f' d' = true) (hb : 0 ≤ a ∧ a ≤ 127) (hc : 0 ≤ e ∧ e ≤ 15) (hd : f < 0 ∨ 2047 < f) (w : World) :
    Calls Try.prog 12 #[pk k a e f d] w fun r w' => r = .returned (.int .i64 1) ∧ Below w.heap.size w w' := by
  have HS : Hid (∀ w : World, Calls Try.prog 21 #[.int .i64 k] w fun r w' => r = .returned (.int .i64 s) ∧ w' = w) := by intro w; rw [← hs]; exact shape_any k w
  have hn := neq_pk k a e f d k a' e' f' d'
  rw [h] at hn
  have W0 : Hid (∀ w : World, Calls Try.prog 26 #[.int .i64 a, .int .i64 127] w fun r w' => r = .returned (.bool true) ∧ w' = w) := by intro w; have h := within_any a 127 w; rw [show (decide (0 ≤ a) && decide (a ≤ 127)) = true by simp; omega] at h; exact h
  have W1 : Hid (∀ w : World, Calls Try.prog 26 #[.int .i64 e, .int .i64 15] w fun r w' => r = .returned (.bool true) ∧ w' = w) := by intro w; have h := within_any e 15 w; rw [show (decide (0 ≤ e) && decide (e ≤ 15)) = true by simp; omega] at h; exact h
  have W2 : Hid (∀ w : World, Calls Try.prog 26 #[.int .i64 f, .int .i64 2047] w fun r w' => r = .returned (.bool false) ∧ w' = w) := by intro w; have h := within_any f 2047 w; rw [show (decide (0 ≤ f) && decide (f ≤ 2047)) = false by simp; omega] at h; exact h
  clear hs h
  go_enter Try.func12, Try.ntmps12
  go_wp2_with fail
  refine (HS.out _).mono ?_
  rintro r u ⟨rfl, rfl⟩
  go_wp2_with fail
  go_region_with (go_at_call 25; refine (HP.out _).mono ?_; rintro r u ⟨rfl, rfl⟩)
  all_goals clear hn
  all_goals obtain ⟨u, hu⟩ : ∃ u, wplaced k a e f d a' e' f' d' (w.alloc (pcells k a e f d)).drew = u := ⟨_, rfl⟩
  all_goals have HB : Hid (Below w.heap.size w u) := by rw [← hu]; exact below_placed ..
  all_goals obtain ⟨c1, c2, c3, c4⟩ := cells_placed k a e f d a' e' f' d' w u hu
  all_goals rw [hu]
  all_goals clear hu
  all_goals
    go_wp2_with fail
    refine (W0.out _).mono ?_
    rintro r u ⟨rfl, rfl⟩
    go_wp2_with fail
    refine (W1.out _).mono ?_
    rintro r u ⟨rfl, rfl⟩
    go_wp2_with fail
    refine (W2.out _).mono ?_
    rintro r u ⟨rfl, rfl⟩
    go_wp2
    go_ret
    exact ⟨rfl, HB.out⟩
set_option maxHeartbeats 1000000 in
theorem check_large (k a e f s : Int) (d : ByteArray) (hs : shp k = s) (h0 : (s == 0) = false) (a' e' f' : Int) (d' : ByteArray)
    (HP : Hid (∀ w : World, Calls Try.prog 25 #[pk k a e f d, .int .i64 s] w fun r w' => r = .returned (pk k a' e' f' d') ∧ w' = wplaced k a e f d a' e' f' d' w))
    (h : same k a e f d k a' e' f' d' = true) (hb : 0 ≤ a ∧ a ≤ 127) (hc : 0 ≤ e ∧ e ≤ 15) (hd : 0 ≤ f ∧ f ≤ 2047) (hl : 64 < d.size) (w : World) :
    Calls Try.prog 12 #[pk k a e f d] w fun r w' => r = .returned (.int .i64 2) ∧ Below w.heap.size w w' := by
  have HS : Hid (∀ w : World, Calls Try.prog 21 #[.int .i64 k] w fun r w' => r = .returned (.int .i64 s) ∧ w' = w) := by intro w; rw [← hs]; exact shape_any k w
  have hn := neq_pk k a e f d k a' e' f' d'
  rw [h] at hn
  have W0 : Hid (∀ w : World, Calls Try.prog 26 #[.int .i64 a, .int .i64 127] w fun r w' => r = .returned (.bool true) ∧ w' = w) := by intro w; have h := within_any a 127 w; rw [show (decide (0 ≤ a) && decide (a ≤ 127)) = true by simp; omega] at h; exact h
  have W1 : Hid (∀ w : World, Calls Try.prog 26 #[.int .i64 e, .int .i64 15] w fun r w' => r = .returned (.bool true) ∧ w' = w) := by intro w; have h := within_any e 15 w; rw [show (decide (0 ≤ e) && decide (e ≤ 15)) = true by simp; omega] at h; exact h
  have W2 : Hid (∀ w : World, Calls Try.prog 26 #[.int .i64 f, .int .i64 2047] w fun r w' => r = .returned (.bool true) ∧ w' = w) := by intro w; have h := within_any f 2047 w; rw [show (decide (0 ≤ f) && decide (f ≤ 2047)) = true by simp; omega] at h; exact h
  clear hs h
  go_enter Try.func12, Try.ntmps12
  go_wp2_with fail
  refine (HS.out _).mono ?_
  rintro r u ⟨rfl, rfl⟩
  go_wp2_with fail
  go_region_with (go_at_call 25; refine (HP.out _).mono ?_; rintro r u ⟨rfl, rfl⟩)
  all_goals clear hn
  all_goals obtain ⟨u, hu⟩ : ∃ u, wplaced k a e f d a' e' f' d' (w.alloc (pcells k a e f d)).drew = u := ⟨_, rfl⟩
  all_goals have HB : Hid (Below w.heap.size w u) := by rw [← hu]; exact below_placed ..
  all_goals obtain ⟨c1, c2, c3, c4⟩ := cells_placed k a e f d a' e' f' d' w u hu
  all_goals rw [hu]
  all_goals clear hu
  all_goals
    go_wp2_with fail
    refine (W0.out _).mono ?_
    rintro r u ⟨rfl, rfl⟩
    go_wp2_with fail
    refine (W1.out _).mono ?_
    rintro r u ⟨rfl, rfl⟩
    go_wp2_with fail
    refine (W2.out _).mono ?_
    rintro r u ⟨rfl, rfl⟩
    go_wp2
    go_ret
    exact ⟨rfl, HB.out⟩
set_option maxHeartbeats 1000000 in
theorem check_fine (k a e f s : Int) (d : ByteArray) (hs : shp k = s) (h0 : (s == 0) = false) (a' e' f' : Int) (d' : ByteArray)
    (HP : Hid (∀ w : World, Calls Try.prog 25 #[pk k a e f d, .int .i64 s] w fun r w' => r = .returned (pk k a' e' f' d') ∧ w' = wplaced k a e f d a' e' f' d' w))
    (h : same k a e f d k a' e' f' d' = true) (hb : 0 ≤ a ∧ a ≤ 127) (hc : 0 ≤ e ∧ e ≤ 15) (hd : 0 ≤ f ∧ f ≤ 2047) (hl : d.size ≤ 64) (w : World) :
    Calls Try.prog 12 #[pk k a e f d] w fun r w' => r = .returned (.int .i64 0) ∧ Below w.heap.size w w' := by
  have HS : Hid (∀ w : World, Calls Try.prog 21 #[.int .i64 k] w fun r w' => r = .returned (.int .i64 s) ∧ w' = w) := by intro w; rw [← hs]; exact shape_any k w
  have hn := neq_pk k a e f d k a' e' f' d'
  rw [h] at hn
  have W0 : Hid (∀ w : World, Calls Try.prog 26 #[.int .i64 a, .int .i64 127] w fun r w' => r = .returned (.bool true) ∧ w' = w) := by intro w; have h := within_any a 127 w; rw [show (decide (0 ≤ a) && decide (a ≤ 127)) = true by simp; omega] at h; exact h
  have W1 : Hid (∀ w : World, Calls Try.prog 26 #[.int .i64 e, .int .i64 15] w fun r w' => r = .returned (.bool true) ∧ w' = w) := by intro w; have h := within_any e 15 w; rw [show (decide (0 ≤ e) && decide (e ≤ 15)) = true by simp; omega] at h; exact h
  have W2 : Hid (∀ w : World, Calls Try.prog 26 #[.int .i64 f, .int .i64 2047] w fun r w' => r = .returned (.bool true) ∧ w' = w) := by intro w; have h := within_any f 2047 w; rw [show (decide (0 ≤ f) && decide (f ≤ 2047)) = true by simp; omega] at h; exact h
  clear hs h
  go_enter Try.func12, Try.ntmps12
  go_wp2_with fail
  refine (HS.out _).mono ?_
  rintro r u ⟨rfl, rfl⟩
  go_wp2_with fail
  go_region_with (go_at_call 25; refine (HP.out _).mono ?_; rintro r u ⟨rfl, rfl⟩)
  all_goals clear hn
  all_goals obtain ⟨u, hu⟩ : ∃ u, wplaced k a e f d a' e' f' d' (w.alloc (pcells k a e f d)).drew = u := ⟨_, rfl⟩
  all_goals have HB : Hid (Below w.heap.size w u) := by rw [← hu]; exact below_placed ..
  all_goals obtain ⟨c1, c2, c3, c4⟩ := cells_placed k a e f d a' e' f' d' w u hu
  all_goals rw [hu]
  all_goals clear hu
  all_goals
    go_wp2_with fail
    refine (W0.out _).mono ?_
    rintro r u ⟨rfl, rfl⟩
    go_wp2_with fail
    refine (W1.out _).mono ?_
    rintro r u ⟨rfl, rfl⟩
    go_wp2_with fail
    refine (W2.out _).mono ?_
    rintro r u ⟨rfl, rfl⟩
    go_wp2
    go_ret
    exact ⟨rfl, HB.out⟩
/-- the code of a packet -/
def code (k a e f : Int) (d : List Int) (c : Int) : Prop :=
  ((shp k = 0 ∨ ¬ plc k a e f d ∨ ¬ wth a e f) ∧ c = 1) ∨ ((shp k ≠ 0 ∧ plc k a e f d ∧ wth a e f ∧ 64 < d.length) ∧ c = 2) ∨ (good k a e f d ∧ c = 0)
theorem check_any (k a e f : Int) (d : ByteArray) : ∃ c, code k a e f (nums d) c ∧ ∀ w : World,
    Calls Try.prog 12 #[pk k a e f d] w fun r w' => r = .returned (.int .i64 c) ∧ Below w.heap.size w w' := by
  by_cases h0 : shp k = 0
  · exact ⟨1, .inl ⟨.inl h0, rfl⟩, check_none k a e f d h0⟩
  obtain ⟨a', e', f', d', HP, hp⟩ := placed_any k a e f d h0
  have h0' : (shp k == 0) = false := by simp [h0]
  cases hb : same k a e f d k a' e' f' d'
  · refine ⟨1, .inl ⟨.inr (.inl ?_), rfl⟩, check_plc k a e f _ d rfl h0' a' e' f' d' HP hb⟩
    intro h; rw [hp.2 h] at hb; cases hb
  have hpl := hp.1 hb
  by_cases h1 : 0 ≤ a ∧ a ≤ 127
  · by_cases h2 : 0 ≤ e ∧ e ≤ 15
    · by_cases h3 : 0 ≤ f ∧ f ≤ 2047
      · have hw : wth a e f := ⟨h1.1, h1.2, h2.1, h2.2, h3.1, h3.2⟩
        by_cases h4 : 64 < d.size
        · exact ⟨2, .inr (.inl ⟨⟨h0, hpl, hw, by rw [nums_length]; exact h4⟩, rfl⟩), check_large k a e f _ d rfl h0' a' e' f' d' HP hb h1 h2 h3 h4⟩
        · exact ⟨0, .inr (.inr ⟨⟨h0, hpl, hw, by rw [nums_length]; omega⟩, rfl⟩), check_fine k a e f _ d rfl h0' a' e' f' d' HP hb h1 h2 h3 (by omega)⟩
      · exact ⟨1, .inl ⟨.inr (.inr (by unfold wth; omega)), rfl⟩, check_frame k a e f _ d rfl h0' a' e' f' d' HP hb h1 h2 (by omega)⟩
    · exact ⟨1, .inl ⟨.inr (.inr (by unfold wth; omega)), rfl⟩, check_end k a e f _ d rfl h0' a' e' f' d' HP hb h1 (by omega)⟩
  · exact ⟨1, .inl ⟨.inr (.inr (by unfold wth; omega)), rfl⟩, check_addr k a e f _ d rfl h0' a' e' f' d' HP hb (by omega)⟩
theorem code_zero {k a e f : Int} {d : List Int} {c : Int} (h : code k a e f d c) : c = 0 ↔ good k a e f d := by
  unfold code at h
  constructor
  · intro hc
    rcases h with ⟨_, h⟩ | ⟨_, h⟩ | ⟨h, _⟩
    · omega
    · omega
    · exact h
  · intro hg
    obtain ⟨g1, g2, g3, g4⟩ := hg
    rcases h with ⟨h | h | h, _⟩ | ⟨h, _⟩ | ⟨_, h⟩
    · exact absurd h g1
    · exact absurd g2 h
    · exact absurd g3 h
    · omega
    · exact h
end Go.Proofs.Ytepifjimfcnggaa.pack
