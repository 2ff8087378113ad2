/- bulk: the small functions. -/
import Derived.Test.YtecknicmonhcaabDoorBulQ
import Derived.Test.YtecknicmonhcaabDoorOwnB
import Derived.Test.YtecknicmonhcaabDoorScsF
import Derived.Test.YtecknicmonhcaabDoorShelf
import Derived.ArgAppend
import Derived.Lib.AppendStr
import Derived.Lib.SmallJoins
namespace Go.Proofs.YtecknicmonhcaabDoor.bulk
open Go Go.RowKit Go.PlainAid Go.Proofs.YtecknicmonhcaabDoor.lane Go.Proofs.YtecknicmonhcaabDoor.pipe Go.Proofs.YtecknicmonhcaabDoor.strike
open Go.Proofs.YtecknicmonhcaabDoor.scsi (bt_range run_part)
set_option linter.unusedVariables false
set_option linter.unusedSimpArgs false
set_option maxRecDepth 100000

theorem bys_new (w : World) (ys : List Int) (t : TypeId) : ∀ j y, ys[j]? = some y → (w.alloc (.cells (ys.map (Value.int .u8)).toArray t)).cell? ⟨w.heap.size, j, none⟩ = some (.int .u8 y) := by
  intro j y hj
  rw [World.cell?_alloc_new]
  simp [hj]
theorem Bys.below {w u : World} {B : Nat} {v : Value} {acc : List Int} (h : Bys w B v acc) (hb : Below w.heap.size w u) : Bys u B v acc := own_below h hb
section
variable {ops : Array Oper} {rest : List Oper} {o : Oper} {a : Act} {w : World} {Q : Exit → Act → World → Prop} {K : Act → World → Prop} {i : Nat} {s x : Operand} {v : Value} {acc ys : List Int} {B g m c : Nat}
/-- bytes behind bytes -/
theorem run_bys (h : Bys w B v acc) (hm : ys.length = m) (hc : ∀ j y, ys[j]? = some y → w.cell? ⟨g, j, none⟩ = some (.int .u8 y)) (hl : acc.length ≤ 1000000) (hl2 : m ≤ 1000000) (hB : B ≤ w.heap.size) (ty : TypeId) :
    ∃ v' w', (Builtin.append_ #[26, 26] ty #[v, .slice (some ⟨g, 0, none⟩) m c]).run Tryd.prog w = .ok v' w' ∧ Bys w' B v' (acc ++ ys) ∧ Below B w w' := by
  obtain ⟨i0, hi, hz0, hz1, hz2⟩ := info_parts infoB
  obtain ⟨v', w', h1, h2, h3, _⟩ := run_append_own (P := Tryd.prog) w B 26 ty 5 i0 _ 1 1 Tryd.underlying26 hi hz0 hz1 hz2 rfl (by omega) v acc.length (acc.map (Value.int .u8)) h ⟨g, 0, none⟩ m c (ys.map (Value.int .u8)) (by simp [hm]) (fun j u hj => by
    rw [List.getElem?_map] at hj
    cases hy : ys[j]? with
    | none => rw [hy] at hj; cases hj
    | some y =>
      rw [hy] at hj
      simp at hj
      subst hj
      rw [Addr.add_lit, Nat.zero_add]; exact hc j y hy) (fun u hu => by obtain ⟨y, _, rfl⟩ := List.mem_map.1 hu; rfl) (by unfold maxLen; omega) (by omega) hB
  refine ⟨v', w', h1, ?_, (Below.refl _ _).grown h3 hB (own_block h)⟩
  unfold Bys
  rw [List.length_append, List.map_append, hm]
  exact h2
theorem wp_bys (ho : o.op = .call { callee := .builtin .append, args := #[s, x], argTypes := #[26, 26] }) (hs : a.eval s = v) (hx : a.eval x = .slice (some ⟨g, 0, none⟩) m c) (h : Bys w B v acc) (hm : ys.length = m) (hc : ∀ j y, ys[j]? = some y → w.cell? ⟨g, j, none⟩ = some (.int .u8 y)) (hl : acc.length ≤ 1000000) (hl2 : m ≤ 1000000) (hB : B ≤ w.heap.size)
    (hK : ∀ v' w', Bys w' B v' (acc ++ ys) → Below B w w' → K (a.put o.dst v') w') : Oper.wp Tryd.prog o a w K Q := by
  obtain ⟨v', w', hr, h2, h3⟩ := run_bys (c := c) h hm hc hl hl2 hB o.type
  unfold Oper.wp execOp
  simp only [ho, resolve, invoke, builtin, Sem.run_bind, Sem.run_pure, Result.andThen_ok, List.map_toArray, List.map_cons, List.map_nil, hs, hx, hr]
  exact hK _ _ h2 h3
theorem r_bys (hi : ops[i]? = some o) (hg : Region.wanted o (yielded ops a.tmps) = true) (ho : o.op = .call { callee := .builtin .append, args := #[s, x], argTypes := #[26, 26] }) (hs : a.eval s = v) (hx : a.eval x = .slice (some ⟨g, 0, none⟩) m c) (h : Bys w B v acc) (hm : ys.length = m) (hc : ∀ j y, ys[j]? = some y → w.cell? ⟨g, j, none⟩ = some (.int .u8 y)) (hl : acc.length ≤ 1000000) (hl2 : m ≤ 1000000) (hB : B ≤ w.heap.size)
    (hK : ∀ v' w', Bys w' B v' (acc ++ ys) → Below B w w' → K (a.put o.dst v') w') : wpOp Tryd.prog ops Q i K a w := by
  refine wpOp_step hi fun K' hK' => ?_
  rw [if_pos hg]
  exact wp_bys ho hs hx h hm hc hl hl2 hB fun v' w' h1 h2 => hK' _ _ (hK v' w' h1 h2)
theorem wpList_bys (w : World) (hgd : o.guard = none) (s x : Operand)
    (ho : o.op = .call { callee := .builtin .append, args := #[s, x], argTypes := #[26, 26] }) (B : Nat) (v : Value) (acc : List Int) (hs : a.eval s = v) (h : Bys w B v acc)
    (g m c : Nat) (ys : List Int) (hx : a.eval x = .slice (some ⟨g, 0, none⟩) m c) (hm : ys.length = m) (hc : ∀ j y, ys[j]? = some y → w.cell? ⟨g, j, none⟩ = some (.int .u8 y)) (hl : acc.length ≤ 1000000) (hl2 : m ≤ 1000000) (hB : B ≤ w.heap.size)
    (hK : ∀ v' w', Bys w' B v' (acc ++ ys) → Below B w w' → wpList Tryd.prog ops Q rest (a.put o.dst v') w') : wpList Tryd.prog ops Q (o :: rest) a w :=
  wpList_plain hgd fun _ hK' => wp_bys ho hs hx h hm hc hl hl2 hB fun v' w' h1 h2 => hK' _ _ (hK v' w' h1 h2)
/-- a text behind bytes -/
theorem wpList_bstr (hgd : o.guard = none) (ho : o.op = .call { callee := .builtin .append, args := #[s, x], argTypes := #[26, 9] }) (hs : a.eval s = v) {t : ByteArray} (hx : a.eval x = .string t) (h : Bys w B v acc) (hl : acc.length ≤ 1000000) (hl2 : t.size ≤ 1000000) (hB : B ≤ w.heap.size)
    (hK : ∀ v' w', Bys w' B v' (acc ++ nums t) → Below B w w' → wpList Tryd.prog ops Q rest (a.put o.dst v') w') : wpList Tryd.prog ops Q (o :: rest) a w := by
  obtain ⟨i0, hi, hz0, hz1, hz2⟩ := info_parts infoB
  refine Lib.wpList_append_own_string w hgd s x 26 9 ho B 5 i0 Tryd.underlying26 Tryd.underlying9 hi hz0 hz1 hz2 v acc.length (acc.map (Value.int .u8)) hs h t hx (by unfold maxLen; omega) (by omega) hB ?_
  intro v' w' h1 h2 _
  refine hK v' w' ?_ ((Below.refl _ _).grown h2 hB (own_block h))
  unfold Bys
  have e : Lib.strCells t = (nums t).map (Value.int .u8) := by unfold Lib.strCells nums; rw [List.map_map]; rfl
  rw [List.length_append, List.map_append, nums_length, ← e]
  exact h1
end
theorem own_mono {w : World} {B B' : Nat} {e : TypeId} {s : Nat} {v : Value} {n : Nat} {xs : List Value} (h : w.ownsRow B e s v n xs) (hB : B' ≤ B) : w.ownsRow B' e s v n xs := Joins.ownsRow_le h hB
/-- bytes of one's own; or a full row of bytes that is read -/
def Bf (w : World) (B : Nat) (v : Value) (acc : List Int) : Prop :=
  Bys w B v acc ∨ ∃ g, v = .slice (some ⟨g, 0, none⟩) acc.length acc.length ∧ B ≤ g ∧ g < w.heap.size ∧ 0 < acc.length ∧ ∀ j y, acc[j]? = some y → w.cell? ⟨g, j, none⟩ = some (.int .u8 y)
theorem Bf.below {w u : World} {B : Nat} {v : Value} {acc : List Int} (h : Bf w B v acc) (hb : Below w.heap.size w u) : Bf u B v acc := by
  rcases h with h | ⟨g, hv, hB, hg, h0, hc⟩
  · exact .inl (own_below h hb)
  · exact .inr ⟨g, hv, hB, Nat.lt_of_lt_of_le hg hb.size, h0, fun j y hy => (hb.cell (p := ⟨g, j, none⟩) hg).trans (hc j y hy)⟩
theorem Bf.form {w : World} {B : Nat} {v : Value} {acc : List Int} (h : Bf w B v acc) : ∃ a c, v = .slice a acc.length c := by
  rcases h with h | ⟨g, hv, _⟩
  · rcases h.2 with ⟨hv, h0⟩ | ⟨g, cap, cur, hv, _⟩
    · exact ⟨none, 0, by rw [hv, h0]⟩
    · exact ⟨_, _, hv⟩
  · exact ⟨_, _, hv⟩
theorem wpList_bf {ops : Array Oper} {rest : List Oper} {o : Oper} {a : Act} {Q : Exit → Act → World → Prop} (w : World) (hgd : o.guard = none) (s x : Operand)
    (ho : o.op = .call { callee := .builtin .append, args := #[s, x], argTypes := #[26, 26] }) (B : Nat) (v : Value) (acc : List Int) (hs : a.eval s = v) (h : Bf w B v acc)
    (g m c : Nat) (ys : List Int) (hx : a.eval x = .slice (some ⟨g, 0, none⟩) m c) (hm : ys.length = m) (hm0 : 0 < m) (hc : ∀ j y, ys[j]? = some y → w.cell? ⟨g, j, none⟩ = some (.int .u8 y)) (hl : acc.length ≤ 1000000) (hl2 : m ≤ 1000000) (hB : B ≤ w.heap.size)
    (hK : ∀ v' w', Bys w' B v' (acc ++ ys) → Below B w w' → wpList Tryd.prog ops Q rest (a.put o.dst v') w') : wpList Tryd.prog ops Q (o :: rest) a w := by
  rcases h with h | ⟨gg, hv, hBg, hgl, h0, hcc⟩
  · exact wpList_bys w hgd s x ho B v acc hs h g m c ys hx hm hc hl hl2 hB hK
  · obtain ⟨i0, hi, hz0, hz1, hz2⟩ := info_parts infoB
    refine wpList_append_grows w hgd s x 26 ho 5 i0 _ 1 1 Tryd.underlying26 hi hz0 hz1 hz2 rfl (by omega) (some ⟨gg, 0, none⟩) acc.length acc.length (acc.map (Value.int .u8)) (hs.trans hv) (by simp) (by simp) ?_ ⟨g, 0, none⟩ m c (ys.map (Value.int .u8)) hx (by simp [hm]) ?_ (fun u hu => by obtain ⟨y, _, rfl⟩ := List.mem_map.1 hu; rfl) (by omega) (by unfold maxLen; omega) (by omega) ?_
    · intro b hb j u hj
      injection hb with hb
      subst hb
      rw [List.getElem?_map] at hj
      cases hy : acc[j]? with
      | none => rw [hy] at hj; cases hj
      | some y =>
        rw [hy] at hj
        simp at hj
        subst hj
        rw [Addr.add_lit, Nat.zero_add]; exact hcc j y hy
    · intro j u hj
      rw [List.getElem?_map] at hj
      cases hy : ys[j]? with
      | none => rw [hy] at hj; cases hj
      | some y =>
        rw [hy] at hj
        simp at hj
        subst hj
        rw [Addr.add_lit, Nat.zero_add]; exact hc j y hy
    · intro v' w' h1 h2
      refine hK v' w' ?_ ((Below.refl _ _).grown h2 hB (fun k hk => by cases hk))
      unfold Bys
      rw [List.length_append, List.map_append, hm]
      exact own_mono h1 hB
/-- []byte of a constant text -/
theorem bf_const (w : World) (ys : List Int) (cs : Array Value) (hcs : (ys.map (Value.int .u8)).toArray = cs) (h0 : 0 < ys.length) (n : Nat) (hn : ys.length = n) :
    ∃ w1 w2, w.alloc (.cells cs 5) = w1 ∧ (convert 26 26 (.slice (some ⟨w.heap.size, 0, none⟩) n n)).run Tryd.prog w1 = .ok (.slice (some ⟨w.heap.size, 0, none⟩) n n) w2 ∧ Bf w2 w.heap.size (.slice (some ⟨w.heap.size, 0, none⟩) n n) ys ∧ Below w.heap.size w w2 ∧ w.heap.size ≤ w2.heap.size := by
  subst hcs hn
  refine ⟨_, _, rfl, Lib.run_convert_bytes_const w 26 5 _ _ _ Tryd.underlying26 Tryd.underlying5, .inr ⟨w.heap.size, rfl, Nat.le_refl _, by simp, h0, fun j y hj => ?_⟩, balloc _ _, by simp⟩
  rw [Joins.cell_alloc_mark_at _ _ _ _ _ _ rfl]
  simp [hj]
theorem isLong_any (n : Int) (w : World) : Calls Tryd.prog 13 #[.int .i64 n] w fun e w' => e = .returned (.bool (lgB n)) ∧ w = w' := by
  unfold lgB
  cases h1 : decide (0 ≤ n)
  · go_enter Tryd.func13, Tryd.ntmps13; go_wp2; go_ret; exact ⟨rfl, rfl⟩
  cases h2 : decide (n ≤ 4294967295) <;> (go_enter Tryd.func13, Tryd.ntmps13; go_wp2; go_ret; exact ⟨rfl, rfl⟩)
theorem inByte_any (b : Bool) (w : World) : Calls Tryd.prog 15 #[.bool b] w fun e w' => e = .returned (.int .u8 (inB b)) ∧ w = w' := by
  cases b <;> (go_enter Tryd.func15, Tryd.ntmps15; go_wp2; go_ret; exact ⟨rfl, rfl⟩)
/-- n bytes x -/
def rpt (x : UInt8) (n : Nat) : ByteArray := ⟨(Lib.repeatL (⟨#[x]⟩ : ByteArray).data.toList n).toArray⟩
theorem rep_list (x : UInt8) : ∀ n, Lib.repeatL [x] n = List.replicate n x := by
  intro n
  induction n with
  | zero => rfl
  | succ n ih => rw [List.replicate_succ, ← ih]; rfl
theorem rpt_nums (x : UInt8) (n : Nat) : nums (rpt x n) = List.replicate n (x.toNat : Int) := by
  unfold nums rpt
  show List.map _ (Lib.repeatL [x] n) = _
  rw [rep_list, List.map_replicate]
theorem rpt_size (x : UInt8) (n : Nat) : (rpt x n).size = n := by rw [← nums_length, rpt_nums, List.length_replicate]
theorem repeat_any (x : UInt8) (n : Nat) (hn : n ≤ 1000000000) (w : World) : Calls Tryd.prog 30 #[.string ⟨#[x]⟩, .int .i64 (n : Int)] w fun e w' => e = .returned (.string (rpt x n)) ∧ Below w.heap.size w w' :=
  Tryd.strings_Repeat ⟨#[x]⟩ n w (by omega) (by show 1 * n ≤ _; omega)
theorem zeros_any (n : Nat) (hn : n ≤ 1000000000) (w : World) : Calls Tryd.prog 16 #[.int .i64 (n : Int)] w fun e w' => e = .returned (.string (rpt 0 n)) ∧ Below w.heap.size w w' := by
  have HR : Hid (∀ u, Calls Tryd.prog 30 #[.string ⟨#[0]⟩, .int .i64 (n : Int)] u fun e w' => e = .returned (.string (rpt 0 n)) ∧ Below u.heap.size u w') := fun u => repeat_any 0 n hn u
  clear hn
  go_enter Tryd.func16, Tryd.ntmps16
  go_wp2_with fail
  refine (HR.out _).mono ?_
  rintro e u ⟨rfl, hb⟩
  have HB : Hid (Below w.heap.size w u) := hb
  clear hb HR
  go_wp2
  go_ret
  exact ⟨rfl, HB.out⟩
theorem isMarked_any (c : Int) (w : World) : Calls Tryd.prog 29 #[.int .i64 c] w fun e w' => e = .returned (.bool (mkd c)) ∧ w = w' := by
  unfold mkd
  cases h2 : (c == 2)
  case true => go_enter Tryd.func29, Tryd.ntmps29; go_wp2; go_ret; exact ⟨rfl, rfl⟩
  cases h3 : (c == 3)
  case true => go_enter Tryd.func29, Tryd.ntmps29; go_wp2; go_ret; exact ⟨rfl, rfl⟩
  cases h7 : (c == 7)
  case true => go_enter Tryd.func29, Tryd.ntmps29; go_wp2; go_ret; exact ⟨rfl, rfl⟩
  cases h8 : (c == 8)
  case true => go_enter Tryd.func29, Tryd.ntmps29; go_wp2; go_ret; exact ⟨rfl, rfl⟩
  cases h10 : (c == 10)
  case true => go_enter Tryd.func29, Tryd.ntmps29; go_wp2; go_ret; exact ⟨rfl, rfl⟩
  cases h13 : (c == 13) <;> (go_enter Tryd.func29, Tryd.ntmps29; go_wp2; go_ret; exact ⟨rfl, rfl⟩)
def mvOf (dir len : Int) : Mv := if len = 0 then mv0 else ⟨dir, len⟩
theorem moveOf_any (dir len : Int) (w : World) : Calls Tryd.prog 47 #[.int .i64 dir, .int .i64 len] w fun e w' => e = .returned (ag (mvl (mvOf dir len))) ∧ Below w.heap.size w w' := by
  have hM := Mm.nil w
  unfold mvOf
  by_cases h : len = 0
  · rw [if_pos h]
    have e1 : (len == 0) = true := by simpa using h
    clear h
    go_enter Tryd.func47, Tryd.ntmps47
    repeat' (first | (go_big_may; first | (refine v_alloc rfl zer_move rfl ?_; intro u za hN; replace hM := hM.new hN; clear hN) | (refine v_build rfl rfl bld_move0 ?hbv ?_; (case hbv => simp [Act.eval, Act.put])) | (refine v_fill rfl rfl row_move rfl rfl hM.at0 (mvl_vs _) rfl ?_; intro u hv hc; replace hM := hM.put0 hc hv; clear hv hc)) | go_values | go_skip | go_guarded | go_step | go_upon | (simp only [Int.not_lt, Int.not_le] at *; go_simp))
    exact bodyPost_ret (ret_1 rfl rfl (ld_var row_move hM.at0 rfl)) rfl ⟨rfl, hM.below⟩
  · rw [if_neg h]
    have e1 : (len == 0) = false := by simpa using h
    clear h
    go_enter Tryd.func47, Tryd.ntmps47
    repeat' (first | (go_big_may; first | (refine v_alloc rfl zer_move rfl ?_; intro u za hN; replace hM := hM.new hN; clear hN) | (refine v_build rfl rfl (bld_move ⟨dir, len⟩) ?hbv ?_; (case hbv => simp [Act.eval, Act.put])) | (refine v_fill rfl rfl row_move rfl rfl hM.at0 (mvl_vs _) rfl ?_; intro u hv hc; replace hM := hM.put0 hc hv; clear hv hc)) | go_values | go_skip | go_guarded | go_step | go_upon | (simp only [Int.not_lt, Int.not_le] at *; go_simp))
    exact bodyPost_ret (ret_1 rfl rfl (ld_var row_move hM.at0 rfl)) rfl ⟨rfl, hM.below⟩
/-- what a host means -/
def hsV (x : Wp) : Mv := if x.inn = true then mvOf 1 x.len else mvOf 2 x.len
theorem hostMove_any (x : Wp) (w : World) : Calls Tryd.prog 33 #[ag (wpl x)] w fun e w' => e = .returned (ag (mvl (hsV x))) ∧ Below w.heap.size w w' := by
  have HO : Hid (∀ d u, Calls Tryd.prog 47 #[.int .i64 d, .int .i64 x.len] u fun e w' => e = .returned (ag (mvl (mvOf d x.len))) ∧ Below u.heap.size u w') := fun d u => moveOf_any d x.len u
  have hM := Mm.nil w
  unfold hsV
  cases h : x.inn
  · simp only [Bool.false_eq_true, if_false]
    have H : Hid (x.inn = false) := h
    clear h
    go_enter Tryd.func33, Tryd.ntmps33
    repeat' (first | (go_big_may; first | (refine v_box rfl rfl rfl ?_; intro u zx hN; replace hM := hM.new hN; clear hN) | (refine v_alloc rfl zer_move rfl ?_; intro u za hN; replace hM := hM.new hN; clear hN) | (refine v_get rfl rfl lod_bool rfl hM.at1 (v := .bool false) (by rw [← H.out]; rfl) ?_) | (refine v_get rfl rfl (by first | exact lod_int | exact lod_str | exact lod_fcs | exact lod_err | exact lod_bool | exact lod_txs) rfl hM.at1 rfl ?_)) | go_values | go_skip | go_guarded | go_step | go_upon | (simp only [Int.not_lt, Int.not_le] at *; go_simp))
    refine (HO.out _ _).mono ?_
    rintro e u ⟨rfl, hb⟩
    replace hM := hM.call hb
    clear hb
    repeat' (first | (go_big_may; first | (refine v_fill rfl rfl row_move rfl rfl hM.at0 (mvl_vs _) rfl ?_; intro u hv hc; replace hM := hM.put0 hc hv; clear hv hc)) | go_values | go_skip | go_guarded | go_step | go_upon | (simp only [Int.not_lt, Int.not_le] at *; go_simp))
    exact bodyPost_ret (ret_1 rfl rfl (ld_var row_move hM.at0 rfl)) rfl ⟨rfl, hM.below⟩
  · simp only [if_true]
    have H : Hid (x.inn = true) := h
    clear h
    go_enter Tryd.func33, Tryd.ntmps33
    repeat' (first | (go_big_may; first | (refine v_box rfl rfl rfl ?_; intro u zx hN; replace hM := hM.new hN; clear hN) | (refine v_alloc rfl zer_move rfl ?_; intro u za hN; replace hM := hM.new hN; clear hN) | (refine v_get rfl rfl lod_bool rfl hM.at1 (v := .bool true) (by rw [← H.out]; rfl) ?_) | (refine v_get rfl rfl (by first | exact lod_int | exact lod_str | exact lod_fcs | exact lod_err | exact lod_bool | exact lod_txs) rfl hM.at1 rfl ?_)) | go_values | go_skip | go_guarded | go_step | go_upon | (simp only [Int.not_lt, Int.not_le] at *; go_simp))
    refine (HO.out _ _).mono ?_
    rintro e u ⟨rfl, hb⟩
    replace hM := hM.call hb
    clear hb
    repeat' (first | (go_big_may; first | (refine v_fill rfl rfl row_move rfl rfl hM.at0 (mvl_vs _) rfl ?_; intro u hv hc; replace hM := hM.put0 hc hv; clear hv hc)) | go_values | go_skip | go_guarded | go_step | go_upon | (simp only [Int.not_lt, Int.not_le] at *; go_simp))
    exact bodyPost_ret (ret_1 rfl rfl (ld_var row_move hM.at0 rfl)) rfl ⟨rfl, hM.below⟩
/-- what a device is given -/
def gvT (x : Wp) (v : Vd) (t : ByteArray) : ByteArray := if x.inn = true then ⟨#[]⟩ else t.extract 0 v.moved.toNat
theorem given_any (x : Wp) (v : Vd) (t : ByteArray) (h0 : 0 ≤ v.moved) (h1 : x.inn = false → v.moved ≤ t.size) (ht : t.size ≤ maxLen) (w : World) : Calls Tryd.prog 19 #[ag (wpl x), ag (vdl v), .string t] w fun e w' => e = .returned (.string (gvT x v t)) ∧ Below w.heap.size w w' := by
  have hM := Mm.nil w
  unfold gvT
  cases h : x.inn
  · simp only [Bool.false_eq_true, if_false]
    have h1 := h1 h
    have H : Hid (x.inn = false) := h
    have hs : ∀ W, (Instr.slice 9 (.string t) none (some (.int .i64 v.moved)) none).run Tryd.prog W = .ok (.string (t.extract 0 v.moved.toNat)) W := fun W => run_slice_string_h (P := Tryd.prog) (w := W) (t := 9) (s := t) (ht := Tryd.underlying9) .i64 v.moved h0 h1
    clear h
    go_enter Tryd.func19, Tryd.ntmps19
    repeat' (first | (go_big_may; first | (refine v_box rfl rfl rfl ?_; intro u zx hN; replace hM := hM.new hN; clear hN) | (refine v_box rfl rfl rfl ?_; intro u zv hN; replace hM := hM.new hN; clear hN) | (refine v_get rfl rfl lod_bool rfl hM.at1 (v := .bool false) (by rw [← H.out]; rfl) ?_) | (refine v_get rfl rfl (by first | exact lod_int | exact lod_str | exact lod_fcs | exact lod_err | exact lod_bool | exact lod_txs) rfl hM.at0 rfl ?_)) | go_values | go_skip | go_guarded | go_step | go_upon | (simp only [Int.not_lt, Int.not_le] at *; go_simp))
    go_ret
    exact ⟨rfl, hM.below⟩
  · simp only [if_true]
    have H : Hid (x.inn = true) := h
    clear h
    go_enter Tryd.func19, Tryd.ntmps19
    repeat' (first | (go_big_may; first | (refine v_box rfl rfl rfl ?_; intro u zx hN; replace hM := hM.new hN; clear hN) | (refine v_box rfl rfl rfl ?_; intro u zv hN; replace hM := hM.new hN; clear hN) | (refine v_get rfl rfl lod_bool rfl hM.at1 (v := .bool true) (by rw [← H.out]; rfl) ?_) | (refine v_get rfl rfl (by first | exact lod_int | exact lod_str | exact lod_fcs | exact lod_err | exact lod_bool | exact lod_txs) rfl hM.at0 rfl ?_)) | go_values | go_skip | go_guarded | go_step | go_upon | (simp only [Int.not_lt, Int.not_le] at *; go_simp))
    go_ret
    exact ⟨rfl, hM.below⟩
theorem run_ix (s : ByteArray) (k : Nat) (h : k < s.size) (W : World) : (Instr.index 9 (.string s) (.int .i64 (k : Int))).run Tryd.prog W = .ok (.int .u8 (bt s k)) W := by
  have e : bt s k = ((s[k]'h).toNat : Int) := by unfold bt; rw [dif_pos h]
  rw [e]
  simp [Instr.index, asIntOf, run_underlying Tryd.underlying9, h, Result.andThen]
/-- the low k bytes, the lowest first -/
def loL : Int → Nat → List Int
  | _, 0 => []
  | m, k + 1 => m % 256 :: loL (m / 256) k
theorem lo_four (n : Int) : loL n 4 = le4 n := by simp [loL, le4, Int.ediv_ediv_of_nonneg]
set_option maxHeartbeats 2000000 in
theorem appendLong_any (B : Nat) (v : Value) (acc : List Int) (n : Int) (h0 : 0 ≤ n) (h1 : n ≤ 4294967295) (w : World) (h : Bf w B v acc) (hB : B ≤ w.heap.size) (hl : acc.length ≤ 100000) :
    Calls Tryd.prog 14 #[v, .int .i64 n] w fun e w' => ∃ v', e = .returned v' ∧ Bys w' B v' (acc ++ le4 n) ∧ Below B w w' := by
  obtain ⟨Z, hZ⟩ : ∃ Z, acc ++ le4 n = Z := ⟨_, rfl⟩
  have HZ : Hid (acc ++ loL n 4 = Z) := by show _ = _; rw [lo_four]; exact hZ
  have HH : Hid (Bf w B v acc ∧ Below B w w) := ⟨h, Below.refl _ _⟩
  rw [hZ]
  clear hZ h
  go_enter Tryd.func14, Tryd.ntmps14
  go_wp2
  go_loopw [0, 1, 5] (fun tv nv iv wr => ∃ (k : Nat) (m : Int) (a : List Int), k ≤ 4 ∧ iv = .int .i64 (k : Int) ∧ nv = .int .i64 m ∧ 0 ≤ m ∧ m ≤ 4294967295 ∧ Hid (Bf wr B tv a ∧ Below B w wr ∧ a ++ loL m (4 - k) = Z ∧ a.length ≤ 100000 + k ∧ (0 < k → Bys wr B tv a))) (fun _ _ iv _ => 4 - (intOf iv).toNat)
  case atStart => exact ⟨0, n, acc, by omega, rfl, rfl, h0, h1, HH.out.1, HH.out.2, HZ.out, by omega, fun q => absurd q (by decide)⟩
  case round =>
    obtain ⟨k, m, a, hk, rfl, rfl, m0, m1, HR⟩ := hrel
    clear HZ HH h0 h1 hl
    by_cases hlt : k < 4
    · have HS : Hid (a ++ [m % 256] ++ loL (m / 256) (4 - (k + 1)) = Z ∧ (a ++ [m % 256]).length ≤ 100000 + (k + 1)) := by
        have h1 := HR.out.2.2.1
        rw [show 4 - k = (4 - (k + 1)) + 1 by omega, loL] at h1
        refine ⟨by rw [List.append_assoc]; exact h1, ?_⟩
        have := HR.out.2.2.2.1
        rw [List.length_append]; simp; omega
      have hsz := HR.out.2.1.size
      have hBw : B ≤ wr.heap.size := by omega
      go_wp2_with (at_builtin; (refine wpList_bf _ rfl _ _ rfl B _ a rfl (HR.out.1.below (balloc wr _)) wr.heap.size 1 1 [m % 256] rfl rfl (by omega) (bys_new wr [m % 256] _) (by have := HR.out.2.2.2.1; omega) (by omega) (by simp; omega) ?_))
      intro v' w2 h2 hb2
      have HQ : Hid (Bys w2 B v' (a ++ [m % 256]) ∧ Below B w w2) := ⟨h2, (HR.out.2.1.alloc (by omega) _).trans hb2⟩
      clear h2 hb2 HR hsz
      go_wp2
      go_roundw
      case rel => exact ⟨k + 1, m / 256, a ++ [m % 256], by omega, by go_num, rfl, by omega, by omega, .inl HQ.out.1, HQ.out.2, HS.out.1, HS.out.2, fun _ => HQ.out.1⟩
      case measure => simp [intOf]; omega
    · obtain rfl : k = 4 := by omega
      have HE : Hid (Bys wr B u0 Z ∧ Below B w wr) := by
        have h1 := HR.out.2.2.1
        rw [Nat.sub_self] at h1
        have h1 : a ++ [] = Z := h1
        rw [List.append_nil] at h1
        rw [← h1]
        exact ⟨HR.out.2.2.2.2 (by decide), HR.out.2.1⟩
      clear HR
      go_wp2
      go_ret
      exact ⟨_, rfl, HE.out⟩
theorem or_high (n b q : Int) (k : Nat) (hq : q = 2 ^ k) (hk : k ≤ 24) (h0 : 0 ≤ n) (h1 : n < q) (b0 : 0 ≤ b) (b1 : b ≤ 255) : bits .or .i64 n (b * q) = n + b * q := by
  obtain ⟨m, rfl⟩ := Int.eq_ofNat_of_zero_le h0
  obtain ⟨c, rfl⟩ := Int.eq_ofNat_of_zero_le b0
  obtain ⟨p, hp⟩ : ∃ p : Nat, p = 2 ^ k := ⟨_, rfl⟩
  have hqp : q = (p : Int) := by rw [hq, hp]; simp
  rw [hqp] at h1 ⊢
  have hm : m < p := by omega
  have hp2 : p ≤ 16777216 := by rw [hp]; exact Nat.pow_le_pow_right (by omega) hk
  have e : m ||| c * p = m + c * p := by
    have := Nat.two_pow_add_eq_or_of_lt (i := k) (b := m) (by rw [← hp]; exact hm) c
    rw [← hp] at this
    rw [Nat.mul_comm c p, Nat.or_comm, ← this, Nat.add_comm]
  have hc2 : c * p ≤ 255 * 16777216 := Nat.mul_le_mul (by omega) hp2
  generalize hd : c * p = d at *
  have hd2 : (c : Int) * (p : Int) = (d : Int) := by rw [← hd]; simp
  rw [hd2]
  have t1 : (BitVec.ofInt 64 (m : Int)).toNat = m := by rw [BitVec.toNat_ofInt]; omega
  have t2 : (BitVec.ofInt 64 (d : Int)).toNat = d := by rw [BitVec.toNat_ofInt]; omega
  show IntKind.i64.wrap ((BitVec.ofInt 64 (m : Int) ||| BitVec.ofInt 64 (d : Int)).toNat : Int) = _
  rw [BitVec.toNat_or, t1, t2, e, IntKind.wrap_i64]
  omega
set_option maxHeartbeats 4000000 in
theorem long_any (x : ByteArray) (w : World) (hx : 4 ≤ x.size) (hm : x.size ≤ maxLen) : Calls Tryd.prog 20 #[.string x] w fun e w' => e = .returned (.int .i64 (lgL (nums x) 0)) ∧ w = w' := by
  have hE : lgL (nums x) 0 = bt x 0 + bt x 1 * 256 + bt x 2 * 65536 + bt x 3 * 16777216 := by
    unfold lgL
    rw [← bt_nums x 0 (by omega), ← bt_nums x (0 + 1) (by omega), ← bt_nums x (0 + 2) (by omega), ← bt_nums x (0 + 3) (by omega)]
    simp only [Nat.zero_add]
    omega
  rw [hE]
  clear hE
  have hbt := get_bt x
  unfold maxLen at hm
  obtain ⟨l0, u0⟩ := bt_range x 0
  obtain ⟨l1, u1⟩ := bt_range x 1
  obtain ⟨l2, u2⟩ := bt_range x 2
  obtain ⟨l3, u3⟩ := bt_range x 3
  have r0 : bits .or .i64 (0) (bt x 0) = bt x 0 := by have := or_high 0 (bt x 0) 1 0 rfl (by omega) (by omega) (by omega) l0 u0; simpa using this
  have r1 : bits .or .i64 (bt x 0) (bt x 1 * 256) = bt x 0 + bt x 1 * 256 := or_high _ _ 256 8 rfl (by omega) (by omega) (by omega) l1 u1
  have r2 : bits .or .i64 (bt x 0 + bt x 1 * 256) (bt x 2 * 65536) = bt x 0 + bt x 1 * 256 + bt x 2 * 65536 := or_high _ _ 65536 16 rfl (by omega) (by omega) (by omega) l2 u2
  have r3 : bits .or .i64 (bt x 0 + bt x 1 * 256 + bt x 2 * 65536) (bt x 3 * 16777216) = bt x 0 + bt x 1 * 256 + bt x 2 * 65536 + bt x 3 * 16777216 := or_high _ _ 16777216 24 rfl (by omega) (by omega) (by omega) l3 u3
  go_enter Tryd.func20, Tryd.ntmps20
  go_wp2
  go_loopw [3, 5] (fun v i wr => ∃ k : Nat, k ≤ 4 ∧ i = .int .i64 (k : Int) ∧ v = .int .i64 (if k = 0 then 0 else if k = 1 then bt x 0 else if k = 2 then bt x 0 + bt x 1 * 256 else if k = 3 then bt x 0 + bt x 1 * 256 + bt x 2 * 65536 else bt x 0 + bt x 1 * 256 + bt x 2 * 65536 + bt x 3 * 16777216) ∧ w = wr) (fun _ i _ => 4 - (intOf i).toNat)
  case atStart => exact ⟨0, by omega, rfl, rfl, rfl⟩
  case round =>
    obtain ⟨k, hk, rfl, rfl, rfl⟩ := hrel
    have hk' : k = 0 ∨ k = 1 ∨ k = 2 ∨ k = 3 ∨ k = 4 := by omega
    rcases hk' with rfl | rfl | rfl | rfl | rfl
    · go_wp2
      go_roundw
      case rel => exact ⟨1, by omega, rfl, rfl, trivial⟩
      case measure => simp [intOf]
    · go_wp2
      go_roundw
      case rel => exact ⟨2, by omega, rfl, rfl, trivial⟩
      case measure => simp [intOf]
    · go_wp2
      go_roundw
      case rel => exact ⟨3, by omega, rfl, rfl, trivial⟩
      case measure => simp [intOf]
    · go_wp2
      go_roundw
      case rel => exact ⟨4, by omega, rfl, rfl, trivial⟩
      case measure => simp [intOf]
    · go_wp2
      go_ret
      exact ⟨rfl, rfl⟩
end Go.Proofs.YtecknicmonhcaabDoor.bulk
