/- desc and plugref's desc: the small functions: bytes behind bytes, numbers within bounds. -/
import Derived.Test.YtebaepkghbihkaaDescA
import Derived.Test.YtebaepkghbihkaaDescB
namespace Go.Proofs.Ytebaepkghbihkaa.desc
open Go.RowKit Go.PlainAid Go.Proofs.Ytebaepkghbihkaa.lane
set_option linter.unusedVariables false

/-- integers that are read -/
def Rig (w : World) (v : Value) (us : List Int) : Prop := Rdg w 1 v us.length (us.map (Value.int .i64))
theorem Rig.cell {w : World} {v : Value} {us : List Int} (h : Rig w v us) : ∃ a c, v = .slice a us.length c ∧ us.length ≤ c ∧ c ≤ maxLen ∧
    ∀ j x, us[j]? = some x → ∃ g off, a = some ⟨g, off, none⟩ ∧ g < w.heap.size ∧ w.cell? ⟨g, off + j, none⟩ = some (.int .i64 x) := by
  obtain ⟨a, c, hv, h1, h2, h3, h4⟩ := h
  refine ⟨a, c, hv, h1, h2, fun j p hj => ?_⟩
  have hl := (List.getElem?_eq_some_iff.1 hj).1
  obtain ⟨g, off, ha, hg, hc⟩ := h4 (by omega)
  exact ⟨g, off, ha, hg, hc j _ (by simp [hj])⟩
theorem Rig.new (w : World) (us : List Int) (t : TypeId) (hm : us.length ≤ maxLen) : Rig (w.alloc (.cells (us.map (Value.int .i64)).toArray t)) (.slice (some ⟨w.heap.size, 0, none⟩) us.length us.length) us := by
  refine ⟨_, _, rfl, Nat.le_refl _, hm, by simp, fun _ => ⟨w.heap.size, 0, rfl, by simp, fun j x hx => ?_⟩⟩
  rw [Nat.zero_add, World.cell?_alloc_new]
  simpa using hx
theorem bys_new (w : World) (ys : List Int) (t : TypeId) : ∀ j y, ys[j]? = some y → (w.alloc (.cells (ys.map (Value.int .u8)).toArray t)).cell? ⟨w.heap.size, j, none⟩ = some (.int .u8 y) := by
  intro j y hj
  rw [World.cell?_alloc_new]
  simp [hj]
theorem Bys.below {w u : World} {B : Nat} {v : Value} {acc : List Int} (h : Bys w B v acc) (hb : Below w.heap.size w u) : Bys u B v acc := own_below h hb
theorem Bys.mono {w : World} {B B' : Nat} {v : Value} {acc : List Int} (h : Bys w B v acc) (hB : B' ≤ B) : Bys w B' v acc := own_mono h hB
/-- bytes behind bytes -/
theorem wpList_bys {ops : Array Oper} {rest : List Oper} {o : Oper} {a : Act} {Q : Exit → Act → World → Prop} (w : World) (hgd : o.guard = none) (s x : Operand)
    (ho : o.op = .call { callee := .builtin .append, args := #[s, x], argTypes := #[56, 56] }) (B : Nat) (v : Value) (acc : List Int) (hs : a.eval s = v) (h : Bys w B v acc)
    (g m c : Nat) (ys : List Int) (hx : a.eval x = .slice (some ⟨g, 0, none⟩) m c) (hm : ys.length = m) (hc : ∀ j y, ys[j]? = some y → w.cell? ⟨g, j, none⟩ = some (.int .u8 y)) (hl : acc.length ≤ 1000000) (hl2 : m ≤ 1000000) (hB : B ≤ w.heap.size)
    (hK : ∀ v' w', Bys w' B v' (acc ++ ys) → w.grownBy w' v.ownBlock → Below B w w' → wpList Try.prog ops Q rest (a.put o.dst v') w') : wpList Try.prog ops Q (o :: rest) a w := by
  obtain ⟨i0, hi, hz0, hz1, hz2⟩ := info_parts infoB
  refine wpList_append_own w hgd s x 56 ho B 5 i0 _ 1 1 Try.underlying56 hi hz0 hz1 hz2 rfl (by omega) v acc.length (acc.map (Value.int .u8)) hs h ⟨g, 0, none⟩ m c (ys.map (Value.int .u8)) hx (by simp [hm]) ?_ (fun u hu => by obtain ⟨y, _, rfl⟩ := List.mem_map.1 hu; rfl) (by unfold maxLen; omega) (by omega) hB ?_
  · intro j u hj
    rw [List.getElem?_map] at hj
    cases hy : ys[j]? with
    | none => rw [hy] at hj; cases hj
    | some y =>
      rw [hy] at hj
      simp at hj
      subst hj
      rw [Addr.add_lit, Nat.zero_add]; exact hc j y hy
  · intro v' w' h1 h2 _
    refine hK v' w' ?_ h2 ((Below.refl _ _).grown h2 hB (own_block h))
    unfold Bys
    rw [List.length_append, List.map_append, hm]
    exact h1
theorem ret_bool {a b : Bool} (h : a = b) : Ending.returned (.bool a) = .returned (.bool b) := by rw [h]
def inB (m x : Int) : Bool := decide (0 ≤ x) && decide (x ≤ m)
def allB (m : Int) (us : List Int) : Bool := us.all (inB m)
theorem allB_cons (m x : Int) (r : List Int) : allB m (x :: r) = (inB m x && allB m r) := rfl

set_option maxHeartbeats 1000000 in
theorem allWithin_any (m : Int) (v : Value) (us : List Int) (w : World) (h : Rig w v us) :
    Calls Try.prog 76 #[.int .i64 m, v] w fun e w' => e = .returned (.bool (allB m us)) ∧ w = w' := by
  obtain ⟨a, c, rfl, hlc, hcm, hc⟩ := h.cell
  have HC : Hid (∀ j x, us[j]? = some x → ∃ g off, a = some ⟨g, off, none⟩ ∧ g < w.heap.size ∧ w.cell? ⟨g, off + j, none⟩ = some (.int .i64 x)) := hc
  unfold maxLen at hcm
  obtain ⟨n, hn⟩ : ∃ n, us.length = n := ⟨_, rfl⟩
  have HN : Hid (us.length = n) := hn
  rw [hn] at hlc
  rw [hn]
  clear h hc hn
  go_enter Try.func76, Try.ntmps76
  go_wp2
  go_loop [9] (fun i => ∃ k : Nat, k ≤ n ∧ i = .int .i64 (k : Int) ∧ Hid (allB m (us.drop k) = allB m us)) (fun i => n - (intOf i).toNat)
  case atStart => exact ⟨0, Nat.zero_le _, rfl, rfl⟩
  case round =>
    obtain ⟨k, hk, rfl, HR⟩ := hrel
    by_cases hlt : k < n
    · have hk1 : k < us.length := by have := HN.out; omega
      obtain ⟨g, off, rfl, hg, c1⟩ := HC.out k us[k] (List.getElem?_eq_getElem hk1)
      have hR := HR.out
      rw [List.drop_eq_getElem_cons hk1, allB_cons] at hR
      generalize us[k] = x at c1 hR
      clear HC HN HR
      by_cases h0 : x < 0
      · have HH : Hid (false = allB m us) := by
          show _ = _
          rw [← hR, inB, decide_eq_false (by omega)]; simp
        clear hR
        go_wp2
        go_ret
        exact ⟨ret_bool HH.out, rfl⟩
      by_cases h1 : m < x
      · have HH : Hid (false = allB m us) := by
          show _ = _
          rw [← hR, inB, decide_eq_false (p := x ≤ m) (by omega)]; simp
        clear hR
        go_wp2
        go_ret
        exact ⟨ret_bool HH.out, rfl⟩
      have HH : Hid (allB m (us.drop (k + 1)) = allB m us) := by
        show _ = _
        rw [← hR, inB, decide_eq_true (show 0 ≤ x by omega), decide_eq_true (show x ≤ m by omega)]; simp
      clear hR
      go_wp2
      go_round
      case rel => exact ⟨k + 1, by omega, by go_num, HH.out⟩
      case measure => simp [intOf]; omega
    · have hR := HR.out
      rw [List.drop_eq_nil_of_le (by have := HN.out; omega)] at hR
      have HH : Hid (true = allB m us) := hR
      clear HC HN HR hR
      go_wp2
      go_ret
      exact ⟨ret_bool HH.out, rfl⟩
set_option maxHeartbeats 1000000 in
theorem appendWord_any (B : Nat) (v : Value) (acc : List Int) (n : Int) (h0 : 0 ≤ n) (h1 : n ≤ 65535) (w : World) (h : Bys w B v acc) (hB : B ≤ w.heap.size) (hl : acc.length ≤ 1000000) :
    Calls Try.prog 51 #[v, .int .i64 n] w fun e w' => ∃ v', e = .returned v' ∧ Bys w' B v' (acc ++ wrd n) ∧ Below B w w' := by
  have H : Hid (Bys w B v acc) := h
  clear h
  go_enter Try.func51, Try.ntmps51
  go_wp2_with (at_builtin; (refine wpList_bys _ rfl _ _ rfl B _ acc rfl (World.ownsRow.alloc H.out _) w.heap.size 2 2 [n % 256, n / 256] rfl rfl (bys_new w [n % 256, n / 256] _) hl (by omega) (by simp; omega) ?_))
  intro v' w2 h2 hg2 hb2
  go_wp2
  go_ret
  exact ⟨_, rfl, h2, ((Below.refl _ _).alloc hB _).trans hb2⟩
theorem between_any (n l m : Int) (w : World) :
    Calls Try.prog 39 #[.int .i64 n, .int .i64 l, .int .i64 m] w fun e w' => e = .returned (.bool (decide (l ≤ n) && decide (n ≤ m))) ∧ w = w' := by
  go_enter Try.func39, Try.ntmps39
  go_wp2
  · rename_i h
    go_ret
    rw [show decide (l ≤ n) = true by simpa using h, Bool.true_and]
    exact ⟨rfl, rfl⟩
  · rename_i h
    go_ret
    rw [show decide (l ≤ n) = false by simp; omega, Bool.false_and]
    exact ⟨rfl, rfl⟩
def bof (us : List Int) : ByteArray := if allB 255 us = true then strOfNums us else ⟨#[]⟩
set_option maxHeartbeats 2000000 in
theorem bytesOf_any (v : Value) (us : List Int) (w : World) (h : Rig w v us) (hl : us.length ≤ 1000) :
    Calls Try.prog 35 #[v] w fun e w' => e = .returned (.tuple #[.string (bof us), .bool (allB 255 us)]) ∧ Below w.heap.size w w' := by
  obtain ⟨a, c, rfl, hlc, hcm, hc⟩ := h.cell
  have HC : Hid (∀ W : World, Below w.heap.size w W → ∀ j x, us[j]? = some x → ∃ g off, a = some ⟨g, off, none⟩ ∧ W.cell? ⟨g, off + j, none⟩ = some (.int .i64 x)) := by
    intro W hW j x hx
    obtain ⟨g, off, ha, hg, hcc⟩ := hc j x hx
    exact ⟨g, off, ha, (hW.cell (p := ⟨g, off + j, none⟩) hg).trans hcc⟩
  unfold maxLen at hcm
  obtain ⟨n, hn⟩ : ∃ n, us.length = n := ⟨_, rfl⟩
  have HN : Hid (us.length = n) := hn
  rw [hn] at hlc hl
  rw [hn]
  clear h hc hn
  go_enter Try.func35, Try.ntmps35
  go_wp2
  go_loopw [4, 9] (fun ov i wr => ∃ (k : Nat) (acc : List Int), k ≤ n ∧ i = .int .i64 (k : Int) ∧ acc.length = k ∧ Bys wr w.heap.size ov acc ∧ Below w.heap.size w wr ∧ Hid (acc ++ us.drop k = us) ∧ Hid (allB 255 (us.drop k) = allB 255 us)) (fun _ i _ => n - (intOf i).toNat)
  case atStart => exact ⟨0, [], Nat.zero_le _, rfl, rfl, Bys.nil _ _, Below.refl _ _, rfl, rfl⟩
  case round =>
    obtain ⟨k, acc, hk, rfl, hal, hX, hb, HA, HR⟩ := hrel
    have HX : Hid (Bys wr w.heap.size u4 acc) := hX
    have HB : Hid (Below w.heap.size w wr) := hb
    have hsz := hb.size
    by_cases hlt : k < n
    · have hk1 : k < us.length := by have := HN.out; omega
      obtain ⟨g, off, rfl, c1⟩ := HC.out wr hb k us[k] (List.getElem?_eq_getElem hk1)
      have hR := HR.out
      have hA := HA.out
      rw [List.drop_eq_getElem_cons hk1, allB_cons] at hR
      rw [List.drop_eq_getElem_cons hk1, List.append_cons] at hA
      generalize us[k] = x at c1 hR hA
      by_cases hbx : inB 255 x = true
      · rw [hbx, Bool.true_and] at hR
        have hx2 : 0 ≤ x ∧ x ≤ 255 := by simpa [inB] using hbx
        obtain ⟨hx0, hx1⟩ := hx2
        have HBt : Hid (∀ w : World, Calls Try.prog 39 #[.int .i64 x, .int .i64 0, .int .i64 255] w fun e w' => e = .returned (.bool true) ∧ w = w') := fun w => by
          have := between_any x 0 255 w
          rw [decide_eq_true hx0, decide_eq_true hx1] at this
          exact this
        have H1 : Hid (allB 255 (us.drop (k + 1)) = allB 255 us) := hR
        have H2 : Hid (acc ++ [x] ++ us.drop (k + 1) = us) := hA
        clear HC HN HR HA hR hA hX hb hbx
        go_wp2_with fail
        refine (HBt.out _).mono ?_
        rintro e wa ⟨rfl, rfl⟩
        go_wp2_with (at_builtin; (refine wpList_bys _ rfl _ _ rfl w.heap.size _ acc rfl (World.ownsRow.alloc HX.out _) wr.heap.size 1 1 [x] rfl rfl (bys_new wr [x] _) (by omega) (by omega) (by simp; omega) ?_))
        intro v' w2 h2 hg2 hb2
        have HX2 : Hid (Bys w2 w.heap.size v' (acc ++ [x])) := h2
        have HB2 : Hid (Below w.heap.size w w2) := (HB.out.alloc (by omega) _).trans hb2
        clear h2 hg2 hb2 HX HB
        go_wp2
        go_roundw
        case rel => exact ⟨k + 1, acc ++ [x], by omega, by go_num, by rw [List.length_append, hal]; rfl, HX2.out, HB2.out, H2, H1⟩
        case measure => simp [intOf]; omega
      · have hbf : inB 255 x = false := by simpa using hbx
        rw [hbf, Bool.false_and] at hR
        have HBt : Hid (∀ w : World, Calls Try.prog 39 #[.int .i64 x, .int .i64 0, .int .i64 255] w fun e w' => e = .returned (.bool false) ∧ w = w') := fun w => by
          have := between_any x 0 255 w
          unfold inB at hbf
          rw [hbf] at this
          exact this
        have H1 : Hid (false = allB 255 us) := hR
        clear HC HN HR HA hR hA hX hb hbx hbf
        go_wp2_with fail
        refine (HBt.out _).mono ?_
        rintro e wa ⟨rfl, rfl⟩
        go_wp2
        go_ret2
        unfold bof
        rw [← H1.out]
        exact ⟨rfl, HB.out⟩
    · have hR := HR.out
      have hA := HA.out
      rw [List.drop_eq_nil_of_le (by have := HN.out; omega)] at hR hA
      rw [List.append_nil] at hA
      subst hA
      have H1 : Hid (true = allB 255 acc) := hR
      have hcv := HX.out.conv
      clear HC HN HR HA hR hX hb
      go_wp2
      go_ret2
      unfold bof
      rw [← H1.out]
      exact ⟨rfl, HB.out⟩
end Go.Proofs.Ytebaepkghbihkaa.desc
