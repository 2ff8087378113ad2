/- host: slices.Equal of events and of error codes; what hostLives answers. -/
import Derived.Test.YthjmcopknkemnaaHstK
import Derived.Lib.SliceRun
import Derived.Laws.StructEq
namespace Go.Proofs.Ythjmcopknkemnaa.host
open Go Go.RowKit
open Go.Proofs.Ythjmcopknkemnaa
open Go.Proofs.Ythjmcopknkemnaa.slots (Row row_board row_cmd Chg ag fl Wf bsq balloc bx_lt Cmp)
open Go.Proofs.Ythjmcopknkemnaa.ring (Ces Rcs rgV rgW Rg Ce ceV named keep below_drewN)
set_option linter.unusedVariables false
set_option linter.unusedSimpArgs false
set_option maxRecDepth 100000

theorem undE : Try.prog.underlying 52 = some (.struct (Try.prog.fieldsOf 52)) := by kernel_rfl
theorem stoodE : Try.prog.stoodInHeld 52 = false := by kernel_rfl
abbrev ev3 (a b c : Int) : Value := .agg #[.int .i64 a, .int .i64 b, .int .i64 c]
theorem eq_ev (a b c a' b' c' : Int) (w : World) : (Op.equalIn 10000 52 (ev3 a b c) (ev3 a' b' c')).run Try.prog w = .ok (decide ([a, b, c] = [a', b', c'])) w := by
  rw [run_equalIn_struct w 9999 52 _ _ undE stoodE]
  simp [go_sem]
  by_cases h1 : a = a' <;> by_cases h2 : b = b' <;> by_cases h3 : c = c' <;> simp [h1, h2, h3]
theorem neq_ev (a b c a' b' c' : Int) (w : World) : (binOp .neq 52 (ev3 a b c) (ev3 a' b' c')).run Try.prog w = .ok (.bool (!decide ([a, b, c] = [a', b', c']))) w := by
  rw [run_neq_struct, eq_ev]; rfl
theorem undD : Try.prog.underlying 23 = some (.struct (Try.prog.fieldsOf 23)) := by kernel_rfl
theorem stoodD : Try.prog.stoodInHeld 23 = false := by kernel_rfl
theorem eq_cm (a b c d a' b' c' d' : Int) (w : World) : (Op.equalIn 10000 23 (.agg #[.int .i64 a, .int .i64 b, .int .i64 c, .int .i64 d]) (.agg #[.int .i64 a', .int .i64 b', .int .i64 c', .int .i64 d'])).run Try.prog w = .ok (decide ([a, b, c, d] = [a', b', c', d'])) w := by
  rw [run_equalIn_struct w 9999 23 _ _ undD stoodD]
  simp [go_sem]
  by_cases h1 : a = a' <;> by_cases h2 : b = b' <;> by_cases h3 : c = c' <;> by_cases h4 : d = d' <;> simp [h1, h2, h3, h4]
theorem cmp_cmd : Cmp 23 4 := ⟨by kernel_rfl, fun l m w h1 h2 => by
  match l, m, h1, h2 with
  | [a, b, c, d], [a', b', c', d'], _, _ => exact eq_cm a b c d a' b' c' d' w⟩
theorem cmp_event : Cmp 52 3 := ⟨by kernel_rfl, fun l m w h1 h2 => by
  match l, m, h1, h2 with
  | [a, b, c], [a', b', c'], _, _ => exact eq_ev a b c a' b' c' w⟩
theorem rng1 {w : World} {g off x : Nat} {a : Int} (h : w.rangeAt g off (ivs [a])) : w.cell? ⟨g, off, none⟩ = some (.int .i64 a) := h 0 _ rfl
theorem rng3 {w : World} {g off : Nat} {a b c : Int} (h : w.rangeAt g off (ivs [a, b, c])) : w.cell? ⟨g, off, none⟩ = some (.int .i64 a) ∧ w.cell? ⟨g, off + 1, none⟩ = some (.int .i64 b) ∧ w.cell? ⟨g, off + 2, none⟩ = some (.int .i64 c) := ⟨h 0 _ rfl, h 1 _ rfl, h 2 _ rfl⟩
set_option maxHeartbeats 2000000 in
theorem equalErr_drew (v1 v2 : Value) (ps qs : List (List Int)) (w : World) (h1 : Rds 1 w v1 ps) (h2 : Rds 1 w v2 qs) :
    Calls Try.prog 25 #[v1, v2] w fun e w' => e = .returned (.bool (decide (ps = qs))) ∧ ∃ m, w' = w.drewN m := by
  obtain ⟨a, c, rfl, hlc, hcm⟩ := h1.form
  obtain ⟨b, d, rfl, hld, hdm⟩ := h2.form
  have HA : Hid (Rds 1 w (.slice a ps.length c) ps) := h1
  have HB : Hid (Rds 1 w (.slice b qs.length d) qs) := h2
  have HLA : Hid (∀ x ∈ ps, x.length = 1) := h1.len
  have HLB : Hid (∀ x ∈ qs, x.length = 1) := h2.len
  unfold maxLen at hcm hdm
  clear h1 h2
  by_cases hlen : ps.length = qs.length
  · have HL : Hid (ps.length = qs.length) := hlen
    obtain ⟨n, hn⟩ : ∃ n, ps.length = n := ⟨_, rfl⟩
    have hm : qs.length = n := by omega
    have HN : Hid (ps.length = n) := hn
    rw [hn] at HA
    rw [hm] at HB
    have HM : Hid (qs.length = n) := hm
    rw [hn] at hlc
    rw [hm] at hld
    rw [hn, hm]
    clear hn hm hlen
    go_enter Try.func25, Try.ntmps25
    go_wp2
    go_loopw [13] (fun i wr => ∃ (k q : Nat), k ≤ n ∧ i = .int .i64 (k : Int) ∧ wr = w.drewN q ∧ Hid (decide (ps.drop k = qs.drop k) = decide (ps = qs))) (fun i _ => n - (intOf i).toNat)
    case atStart => exact ⟨0, 0, Nat.zero_le _, rfl, rfl, rfl⟩
    case round =>
      obtain ⟨k, q, hk, rfl, rfl, HR⟩ := hrel
      by_cases hlt : k < n
      · have hk1 : k < ps.length := by have := HN.out; omega
        have hk2 : k < qs.length := by have := HM.out; omega
        obtain ⟨g, off, rfl, hca⟩ := HA.out.at k ps[k] (List.getElem?_eq_getElem hk1)
        obtain ⟨g', off', rfl, hcb⟩ := HB.out.at k qs[k] (List.getElem?_eq_getElem hk2)
        have hl1 := HLA.out ps[k] (List.getElem_mem _)
        have hl2 := HLB.out qs[k] (List.getElem_mem _)
        have hR := HR.out
        rw [List.drop_eq_getElem_cons hk1, List.drop_eq_getElem_cons hk2] at hR
        generalize ps[k] = x at hca hR hl1
        generalize qs[k] = y at hcb hR hl2
        obtain ⟨x0, rfl⟩ : ∃ x0, x = [x0] := by
          match x, hl1 with
          | [u0], _ => exact ⟨u0, rfl⟩
        obtain ⟨y0, rfl⟩ : ∃ y0, y = [y0] := by
          match y, hl2 with
          | [u0], _ => exact ⟨u0, rfl⟩
        have c0 := rng1 (x := 0) (hca w (Below.refl _ _))
        have d0 := rng1 (x := 0) (hcb w (Below.refl _ _))
        rw [Nat.mul_one] at c0 d0
        by_cases hxy : [x0] = [y0]
        · have HR2 : Hid (decide (ps.drop (k + 1) = qs.drop (k + 1)) = decide (ps = qs)) := by
            show _ = _
            rw [← hR]; simp [hxy]
          have hneq : ∀ u, (binOp .neq 25 ((.int .i64 x0)) ((.int .i64 y0))).run Try.prog u = .ok (.bool false) u := fun u => by have e : x0 = y0 := (by injection hxy); rw [e]; simp [go_sem]
          have e0 : (x0 != y0) = false := by have e : x0 = y0 := (by injection hxy); simp [e]
          clear HA HB HL HN HM HR hR hca hcb HLA HLB hxy hl1 hl2
          go_wp2
          go_region
          go_wp2
          go_roundw
          case rel => exact ⟨k + 1, q + _, by omega, by go_num, rfl, HR2.out⟩
          case measure => simp [intOf]; omega
        · have HR2 : Hid (false = decide (ps = qs)) := by
            show _ = _
            rw [← hR]; symm; rw [decide_eq_false_iff_not]
            intro h; exact hxy (by injection h)
          have hneq : ∀ u, (binOp .neq 25 ((.int .i64 x0)) ((.int .i64 y0))).run Try.prog u = .ok (.bool true) u := fun u => by have e : ¬ x0 = y0 := (fun q => hxy (by rw [q])); simp [go_sem, e]
          have e0 : (x0 != y0) = true := by have e : ¬ x0 = y0 := (fun q => hxy (by rw [q])); simp [e]
          clear HA HB HL HN HM HR hR hxy hca hcb HLA HLB hl1 hl2
          go_wp2
          go_region
          go_wp2
          go_ret
          rw [← HR2.out]
          exact ⟨rfl, _, rfl⟩
      · have hR := HR.out
        rw [List.drop_eq_nil_of_le (by have := HN.out; omega), List.drop_eq_nil_of_le (by have := HM.out; omega)] at hR
        have HR2 : Hid (true = decide (ps = qs)) := by show _ = _; rw [← hR]; simp
        clear HA HB HL HN HM HR hR HLA HLB
        go_wp2
        go_ret
        rw [← HR2.out]
        exact ⟨rfl, _, rfl⟩
  · have HE : Hid (false = decide (ps = qs)) := by
      show _ = _
      rw [eq_comm, decide_eq_false_iff_not]
      exact fun h => hlen (by rw [h])
    have hne : ((ps.length : Int) != (qs.length : Int)) = true := by simp; omega
    clear HA HB HLA HLB
    go_enter Try.func25, Try.ntmps25
    go_wp2
    go_ret
    rw [← HE.out]
    exact ⟨rfl, 0, rfl⟩
theorem equalErr_any (v1 v2 : Value) (ps qs : List (List Int)) (w : World) (h1 : Rds 1 w v1 ps) (h2 : Rds 1 w v2 qs) :
    Calls Try.prog 25 #[v1, v2] w fun e w' => e = .returned (.bool (decide (ps = qs))) ∧ Below w.heap.size w w' :=
  (equalErr_drew v1 v2 ps qs w h1 h2).mono fun e w' ⟨he, m, hw⟩ => ⟨he, by rw [hw]; exact below_drewN (Below.refl _ _) m⟩
set_option maxHeartbeats 2000000 in
theorem equalEv_drew (v1 v2 : Value) (ps qs : List (List Int)) (w : World) (h1 : Rds 3 w v1 ps) (h2 : Rds 3 w v2 qs) :
    Calls Try.prog 24 #[v1, v2] w fun e w' => e = .returned (.bool (decide (ps = qs))) ∧ ∃ m, w' = w.drewN m := by
  obtain ⟨a, c, rfl, hlc, hcm⟩ := h1.form
  obtain ⟨b, d, rfl, hld, hdm⟩ := h2.form
  have HA : Hid (Rds 3 w (.slice a ps.length c) ps) := h1
  have HB : Hid (Rds 3 w (.slice b qs.length d) qs) := h2
  have HLA : Hid (∀ x ∈ ps, x.length = 3) := h1.len
  have HLB : Hid (∀ x ∈ qs, x.length = 3) := h2.len
  unfold maxLen at hcm hdm
  clear h1 h2
  by_cases hlen : ps.length = qs.length
  · have HL : Hid (ps.length = qs.length) := hlen
    obtain ⟨n, hn⟩ : ∃ n, ps.length = n := ⟨_, rfl⟩
    have hm : qs.length = n := by omega
    have HN : Hid (ps.length = n) := hn
    rw [hn] at HA
    rw [hm] at HB
    have HM : Hid (qs.length = n) := hm
    rw [hn] at hlc
    rw [hm] at hld
    rw [hn, hm]
    clear hn hm hlen
    go_enter Try.func24, Try.ntmps24
    go_wp2
    go_loopw [13] (fun i wr => ∃ (k q : Nat), k ≤ n ∧ i = .int .i64 (k : Int) ∧ wr = w.drewN q ∧ Hid (decide (ps.drop k = qs.drop k) = decide (ps = qs))) (fun i _ => n - (intOf i).toNat)
    case atStart => exact ⟨0, 0, Nat.zero_le _, rfl, rfl, rfl⟩
    case round =>
      obtain ⟨k, q, hk, rfl, rfl, HR⟩ := hrel
      by_cases hlt : k < n
      · have hk1 : k < ps.length := by have := HN.out; omega
        have hk2 : k < qs.length := by have := HM.out; omega
        obtain ⟨g, off, rfl, hca⟩ := HA.out.at k ps[k] (List.getElem?_eq_getElem hk1)
        obtain ⟨g', off', rfl, hcb⟩ := HB.out.at k qs[k] (List.getElem?_eq_getElem hk2)
        have hl1 := HLA.out ps[k] (List.getElem_mem _)
        have hl2 := HLB.out qs[k] (List.getElem_mem _)
        have hR := HR.out
        rw [List.drop_eq_getElem_cons hk1, List.drop_eq_getElem_cons hk2] at hR
        generalize ps[k] = x at hca hR hl1
        generalize qs[k] = y at hcb hR hl2
        obtain ⟨x0, x1, x2, rfl⟩ : ∃ x0 x1 x2, x = [x0, x1, x2] := by
          match x, hl1 with
          | [u0, u1, u2], _ => exact ⟨u0, u1, u2, rfl⟩
        obtain ⟨y0, y1, y2, rfl⟩ : ∃ y0 y1 y2, y = [y0, y1, y2] := by
          match y, hl2 with
          | [u0, u1, u2], _ => exact ⟨u0, u1, u2, rfl⟩
        obtain ⟨c0, c1, c2⟩ := rng3 (hca w (Below.refl _ _))
        obtain ⟨d0, d1, d2⟩ := rng3 (hcb w (Below.refl _ _))
        by_cases hxy : [x0, x1, x2] = [y0, y1, y2]
        · have HR2 : Hid (decide (ps.drop (k + 1) = qs.drop (k + 1)) = decide (ps = qs)) := by
            show _ = _
            rw [← hR]; simp [hxy]
          have hneq : ∀ u, (binOp .neq 52 (ev3 x0 x1 x2) (ev3 y0 y1 y2)).run Try.prog u = .ok (.bool false) u := fun u => by rw [neq_ev, decide_eq_true hxy]; rfl
          clear HA HB HL HN HM HR hR hca hcb HLA HLB hxy hl1 hl2
          go_wp2
          go_region
          go_wp2
          go_roundw
          case rel => exact ⟨k + 1, q + _, by omega, by go_num, rfl, HR2.out⟩
          case measure => simp [intOf]; omega
        · have HR2 : Hid (false = decide (ps = qs)) := by
            show _ = _
            rw [← hR]; symm; rw [decide_eq_false_iff_not]
            intro h; exact hxy (by injection h)
          have hneq : ∀ u, (binOp .neq 52 (ev3 x0 x1 x2) (ev3 y0 y1 y2)).run Try.prog u = .ok (.bool true) u := fun u => by rw [neq_ev, decide_eq_false hxy]; rfl
          clear HA HB HL HN HM HR hR hxy hca hcb HLA HLB hl1 hl2
          go_wp2
          go_region
          go_wp2
          go_ret
          rw [← HR2.out]
          exact ⟨rfl, _, rfl⟩
      · have hR := HR.out
        rw [List.drop_eq_nil_of_le (by have := HN.out; omega), List.drop_eq_nil_of_le (by have := HM.out; omega)] at hR
        have HR2 : Hid (true = decide (ps = qs)) := by show _ = _; rw [← hR]; simp
        clear HA HB HL HN HM HR hR HLA HLB
        go_wp2
        go_ret
        rw [← HR2.out]
        exact ⟨rfl, _, rfl⟩
  · have HE : Hid (false = decide (ps = qs)) := by
      show _ = _
      rw [eq_comm, decide_eq_false_iff_not]
      exact fun h => hlen (by rw [h])
    have hne : ((ps.length : Int) != (qs.length : Int)) = true := by simp; omega
    clear HA HB HLA HLB
    go_enter Try.func24, Try.ntmps24
    go_wp2
    go_ret
    rw [← HE.out]
    exact ⟨rfl, 0, rfl⟩
theorem equalEv_any (v1 v2 : Value) (ps qs : List (List Int)) (w : World) (h1 : Rds 3 w v1 ps) (h2 : Rds 3 w v2 qs) :
    Calls Try.prog 24 #[v1, v2] w fun e w' => e = .returned (.bool (decide (ps = qs))) ∧ Below w.heap.size w w' :=
  (equalEv_drew v1 v2 ps qs w h1 h2).mono fun e w' ⟨he, m, hw⟩ => ⟨he, by rw [hw]; exact below_drewN (Below.refl _ _) m⟩
theorem rds_one (u : World) (g : Nat) (x : List Int) (k : Nat) (hk : x.length = k) (hp : 0 < k) (h : ∀ j z, (ivs x)[j]? = some z → u.cell? ⟨g, j, none⟩ = some z) : Rds k u (.slice (some ⟨g, 0, none⟩) 1 1) [x] := by
  refine ⟨some ⟨g, 0, none⟩, 1, rfl, Nat.le_refl _, by unfold maxLen; omega, fun y hy => by rw [List.mem_singleton.1 hy]; exact hk, fun _ => ⟨g, 0, rfl, ?_, fun j y hy r z hz => ?_⟩⟩
  · obtain ⟨z, hz⟩ : ∃ z, (ivs x)[0]? = some z := ⟨_, List.getElem?_eq_getElem (by simp [ivs]; omega)⟩
    have := World.block_lt_of_cell? u _ (h 0 z hz)
    simpa using this
  · have hj : j = 0 := by have := (List.getElem?_eq_some_iff.1 hy).1; simp at this; exact this
    subst hj
    simp at hy
    subst hy
    rw [Nat.zero_mul, Nat.zero_add]
    first | exact h r z hz | (rw [Nat.zero_add]; exact h r z hz)
/-- rows that were laid down -/
theorem rds_laid {k : Nat} {e : TypeId} (w u : World) (L : List (List Int)) (g : Nat) (hk : ∀ x ∈ L, x.length = k) (hl : L.length ≤ 1000) (hu : u.heap[g]? = some (bv e (cls L))) : Rds k u (.slice (some ⟨g, 0, none⟩) L.length L.length) L := by
  refine ⟨_, _, rfl, Nat.le_refl _, by unfold maxLen; omega, hk, fun _ => ⟨_, _, rfl, bx_lt hu, fun j x hx r z hz => ?_⟩⟩
  have hr : r < k := by have := (List.getElem?_eq_some_iff.1 hz).1; simp [ivs, hk x (List.mem_of_getElem? hx)] at this; exact this
  rw [Nat.zero_add]
  exact bv_cell hu (by rw [cls_at hk hx hr]; exact hz)
def lvD : List Dd := [(1, (2, 0, 0, 0), 0, 0, 0), (2, (0, 0, 0, 0), 9, 0, 0), (3, (0, 0, 0, 0), 0, 0, 0), (3, (0, 0, 0, 0), 0, 0, 0)]
theorem lv1 : stp 3 3 ps0 (1, (2, 0, 0, 0), 0, 0, 0) = ⟨[(2, 0, 0, 0)], [], 0, slots.zB⟩ := rfl
theorem lv2 : stp 3 3 ⟨[(2, 0, 0, 0)], [], 0, slots.zB⟩ (2, (0, 0, 0, 0), 9, 0, 0) = ⟨[(2, 0, 0, 0)], [(1, 1, 0)], 0, slots.zB.set 1 (slots.one 1)⟩ := by
  have e : tha ⟨[(2, 0, 0, 0)], [], 0, slots.zB⟩ = ⟨slots.zB.set 1 (slots.one 1), 1, 1⟩ := slots.lives_do
  unfold stp wrS
  rw [if_neg (by decide), if_pos rfl, if_pos (by decide)]
  show wkS 3 3 9 _ = _
  rw [wkS, if_pos (by decide)]
  unfold wsV wsE
  rw [e]
  rw [wkS, if_neg (by simp [wsB])]
  rfl
theorem lv3 (B : slots.Bd) : stp 3 3 ⟨[(2, 0, 0, 0)], [(1, 1, 0)], 0, B⟩ (3, (0, 0, 0, 0), 0, 0, 0) = ⟨[(2, 0, 0, 0)], [(1, 1, 0)], 1, B⟩ := rfl
theorem lv4 (B : slots.Bd) : stp 3 3 ⟨[(2, 0, 0, 0)], [(1, 1, 0)], 1, B⟩ (3, (0, 0, 0, 0), 0, 0, 0) = ⟨[(2, 0, 0, 0)], [(1, 1, 0)], 1, B⟩ := rfl
theorem lv_s : pls 3 3 ps0 lvD = ⟨[(2, 0, 0, 0)], [(1, 1, 0)], 1, slots.zB.set 1 (slots.one 1)⟩ := by
  unfold lvD
  rw [pls, lv1, pls, lv2, pls, lv3, pls, lv4, pls]
theorem lv_t : plt 3 3 ps0 lvD = [0] := by
  unfold lvD
  rw [plt, lv1, plt, lv2, plt, lv3, plt, lv4, plt]
  rfl
theorem lv_c : plC 4 4 lvD = 0 := by decide
theorem lv_e : plE 4 4 lvD = [(1, 1, 0)] := by
  unfold plE
  rw [if_pos lv_c]
  show rpd (pls 3 3 ps0 lvD) = _
  rw [lv_s]
  rfl
theorem lv_x : plX 4 4 lvD = [0] := by
  unfold plX
  rw [if_pos lv_c]
  exact lv_t
theorem lv_w : Wf (plM 4 4 lvD).B := by
  unfold plM
  rw [if_pos lv_c]
  show Wf (mcs 3 3 (pls 3 3 ps0 lvD)).B
  rw [lv_s]
  exact slots.zB_wf.set (slots.one_len 1)
theorem bld_c1 (k : Int) (w : World) : (Instr.build 23 #[(0, .int .i64 k)]).run Try.prog w = .ok (agv (ivs [k, 0, 0, 0])) w := by kernel_rfl
theorem bld_d1 (w : World) : (Instr.build 73 #[(0, .int .i64 1), (1, agv (ivs [2, 0, 0, 0]))]).run Try.prog w = .ok (agv (ivs [1, 2, 0, 0, 0, 0, 0, 0])) w := by kernel_rfl
theorem bld_d2 (w : World) : (Instr.build 73 #[(0, .int .i64 2), (2, .int .i64 9)]).run Try.prog w = .ok (agv (ivs [2, 0, 0, 0, 0, 9, 0, 0])) w := by kernel_rfl
theorem bld_d3 (w : World) : (Instr.build 73 #[(0, .int .i64 3)]).run Try.prog w = .ok (agv (ivs [3, 0, 0, 0, 0, 0, 0, 0])) w := by kernel_rfl
theorem bld_e2 (w : World) : (Instr.build 52 #[(0, .int .i64 1), (1, .int .i64 1)]).run Try.prog w = .ok (agv (ivs [1, 1, 0])) w := by kernel_rfl
theorem bs_d (w : World) : (Instr.buildSlice 56 4 #[(0, agv (ivs [1, 2, 0, 0, 0, 0, 0, 0])), (1, agv (ivs [2, 0, 0, 0, 0, 9, 0, 0])), (2, agv (ivs [3, 0, 0, 0, 0, 0, 0, 0])), (3, agv (ivs [3, 0, 0, 0, 0, 0, 0, 0]))]).run Try.prog w = .ok (.slice (some ⟨w.heap.size, 0, none⟩) 4 4) (w.alloc (bv 73 (cls (lvD.map ddL)))) := by kernel_rfl
/-- several elements in a new row -/
theorem v_bsN {ops : Array Oper} {rest : List Oper} {o : Oper} {a : Act} {w : World} {Q : Exit → Act → World → Prop} (hgd : Region.wanted o (yielded ops a.tmps) = true) {t e : TypeId} {n : Nat} {ps : Array (Nat × Operand)} (ho : o.op = .buildSlice t n ps) {vs : Array (Nat × Value)} {V : List Value}
    (hb : ∀ w, (Instr.buildSlice t n vs).run Try.prog w = .ok (.slice (some ⟨w.heap.size, 0, none⟩) n n) (w.alloc (bv e V))) (hv : ps.map (fun q => (q.1, a.eval q.2)) = vs)
    (h : ∀ u g, Below w.heap.size w u → u.heap[g]? = some (bv e V) → wpList Try.prog ops Q rest (a.put o.dst (.slice (some ⟨g, 0, none⟩) n n)) u) : wpList Try.prog ops Q (o :: rest) a w := by
  subst hv
  refine wpList_step fun K hK' => ?_
  rw [if_pos hgd]
  unfold Oper.wp execOp
  simp only [ho, Sem.run_bind, hb, Result.andThen_ok, Sem.run_pure]
  exact hK' _ _ (h _ _ (balloc _ _) (MapKept.heap_alloc w _).1)
set_option maxHeartbeats 8000000 in
theorem lives_any (w : World) : Calls Try.prog 26 #[] w fun e w' => e = .returned (.bool true) ∧ Below w.heap.size w w' := by
  have HP : Hid (∀ v u, Rds 8 u v (lvD.map ddL) → Calls Try.prog 20 #[.int .i64 4, .int .i64 4, v] u fun r w' => ∃ vc ve gv tv, r = .returned (.tuple #[agv (mvl vc ve (plM 4 4 lvD)), gv, tv, .int .i64 0]) ∧ Tl u vc ve (plM 4 4 lvD) w' ∧ Rds 3 w' gv [[1, 1, 0]] ∧ Rds 1 w' tv [[0]]) := fun v u h => by
    have := play_any 4 4 v lvD u h
    rw [lv_c, lv_e, lv_x] at this
    exact this
  have HEE : Hid (∀ v1 v2 u, Rds 1 u v1 [[0]] → Rds 1 u v2 [[0]] → Calls Try.prog 25 #[v1, v2] u fun e w' => e = .returned (.bool true) ∧ Below u.heap.size u w') := fun v1 v2 u h1 h2 => equalErr_any v1 v2 _ _ u h1 h2
  have HEV : Hid (∀ v1 v2 u, Rds 3 u v1 [[1, 1, 0]] → Rds 3 u v2 [[1, 1, 0]] → Calls Try.prog 24 #[v1, v2] u fun e w' => e = .returned (.bool true) ∧ Below u.heap.size u w') := fun v1 v2 u h1 h2 => equalEv_any v1 v2 _ _ u h1 h2
  have b1 := bld_c1 2
  have b2 := bld_d1
  have b3 := bld_d2
  have b4 := bld_d3
  have b5 := bs_d
  have b6 := bld_e2
  have HWM : Hid (Wf (plM 4 4 lvD).B) := lv_w
  have HZ : Hid (zl.length = 606) := zl_vs.len
  have HO1 : Hid ((Value.int .i64 0).cells = (ivs [0]).toArray) := rfl
  have HO2 : Hid ((ivs [0]).length = 1) := rfl
  have HO3 : Hid ((agv (ivs [1, 1, 0])).cells = (ivs [1, 1, 0]).toArray) := rfl
  have HO4 : Hid ((ivs [1, 1, 0]).length = 3) := rfl
  have HLD : Hid (∀ (u : World) g, u.heap[g]? = some (bv 73 (cls (lvD.map ddL))) → Rds 8 u (.slice (some ⟨g, 0, none⟩) 4 4) (lvD.map ddL)) := fun u g h => rds_laid u u (lvD.map ddL) g (by decide) (by decide) h
  have HL1 : Hid (∀ (u : World) g, (∀ j z, (ivs [0])[j]? = some z → u.cell? ⟨g, j, none⟩ = some z) → Rds 1 u (.slice (some ⟨g, 0, none⟩) 1 1) [[0]]) := fun u g h => rds_one u g [0] 1 rfl (by omega) h
  have HL3 : Hid (∀ (u : World) g, (∀ j z, (ivs [1, 1, 0])[j]? = some z → u.cell? ⟨g, j, none⟩ = some z) → Rds 3 u (.slice (some ⟨g, 0, none⟩) 1 1) [[1, 1, 0]]) := fun u g h => rds_one u g [1, 1, 0] 3 rfl (by omega) h
  generalize plM 4 4 lvD = PM at *
  generalize cls (lvD.map ddL) = CL at *
  generalize lvD.map ddL = LD at *
  have hM := Mv.nil w
  go_enter Try.func26, Try.ntmps26
  repeat' (first | (go_big_may; first | (refine v_build rfl rfl b1 ?hbv ?_; (case hbv => simp [Act.eval, Act.put])) | (refine v_build rfl rfl b2 ?hbv ?_; (case hbv => simp [Act.eval, Act.put])) | (refine v_build rfl rfl b3 ?hbv ?_; (case hbv => simp [Act.eval, Act.put])) | (refine v_build rfl rfl b4 ?hbv ?_; (case hbv => simp [Act.eval, Act.put])) | (refine v_bsN rfl rfl b5 ?hbv ?_; (case hbv => simp [Act.eval, Act.put]); intro u1 g1 hb1 hc1; replace hM := hM.call hb1; clear hb1)) | go_values | go_skip | go_guarded | go_step | go_upon | (simp only [Int.not_lt, Int.not_le] at *; go_simp))
  refine (HP.out _ _ (HLD.out _ _ hc1)).mono ?_
  rintro r u2 ⟨vc, ve, gv, tv, rfl, ht, hg, ho⟩
  have H3 : Hid (Vs (mvl vc ve PM) 606) := mvl_vs (rcs_one ht.c.rcs) (rcs_one ht.e.rcs) HWM.out
  have HG : Hid (Rds 3 u2 gv [[1, 1, 0]]) := hg
  have HO : Hid (Rds 1 u2 tv [[0]]) := ho
  replace hM := hM.call ht.below
  have hM2 := Mv.nil u2
  have HMM := hM
  clear ht hg ho hc1 hM
  have hM := hM2
  clear hM2
  have HMH : Hid (Below w.heap.size w u2) := HMM.below
  clear HMM
  repeat' (first | (go_big_may; first | (refine v_alloc rfl zer_mach rfl ?_; intro u xm hN; replace hM := hM.new hN (by decide); clear hN) | (refine v_fill rfl rfl row_mach rfl rfl hM.at0 H3.out HZ.out ?_; intro u hv hc; replace hM := hM.put0 hc hv; clear hv hc) | (refine v_bs rfl rfl el_errno rfl HO1.out HO2.out ?_; intro u3 g3 hb3 hc3; replace hM := hM.call hb3; clear hb3)) | go_values | go_skip | go_guarded | go_step | go_upon | (simp only [Int.not_lt, Int.not_le] at *; go_simp))
  refine (HEE.out _ _ _ (HO.out.below hM.below) (HL1.out _ _ hc3)).mono ?_
  rintro r u4 ⟨rfl, hv⟩
  replace hM := hM.call hv
  clear hv hc3
  repeat' (first | (go_big_may; first | (refine v_build rfl rfl b6 ?hbv ?_; (case hbv => simp [Act.eval, Act.put])) | (refine v_bs rfl rfl el_event rfl HO3.out HO4.out ?_; intro u5 g5 hb5 hc5; replace hM := hM.call hb5; clear hb5)) | go_values | go_skip | go_guarded | go_step | go_upon | (simp only [Int.not_lt, Int.not_le] at *; go_simp))
  refine (HEV.out _ _ _ (HG.out.below hM.below) (HL3.out _ _ hc5)).mono ?_
  rintro r u6 ⟨rfl, hv⟩
  replace hM := hM.call hv
  clear hv hc5
  repeat' (first | go_values | go_skip | go_guarded | go_step | go_upon | (simp only [Int.not_lt, Int.not_le] at *; go_simp))
  go_ret
  exact ⟨rfl, bsq HMH.out hM.below⟩
end Go.Proofs.Ythjmcopknkemnaa.host
