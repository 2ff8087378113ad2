/- plugref's crc: what left answers: long division of bits. -/
import Derived.Test.YtepifjimfcnggaaCrcR
namespace Go.Proofs.Ytepifjimfcnggaa.crc
open Go.RowKit Go.PlainAid Go.Proofs.Ytepifjimfcnggaa.lane

theorem run_append_nil {P : Program} (w : World) (t ty e : TypeId) (i : TypeInfo) (ht : P.underlying t = some (.slice e)) (hi : P.info? e = some i) :
    (Builtin.append_ #[t, t] ty #[.slice none 0 0, .slice none 0 0]).run P w = .ok (.slice none 0 0) w := by
  simp [Builtin.append_, run_underlying ht, sizeOf, typeInfo, hi, Builtin.lenOf, Builtin.firstCells]
/-- append(nil, v..), v nil or a row: a copy of its own -/
theorem wpList_append_copy {P : Program} (w : World) {ops : Array Oper} {rest : List Oper} {o : Oper} {a : Act} {Q : Exit → Act → World → Prop} (hgd : o.guard = none) (s x : Operand) (t : TypeId)
    (ho : o.op = .call { callee := .builtin .append, args := #[s, x], argTypes := #[t, t] })
    (e : TypeId) (i : TypeInfo) (z : Value) (ht : P.underlying t = some (.slice e)) (hi : P.info? e = some i) (hz : i.zero = some z)
    (hsize : i.size = 1) (hby : i.bytes = 1) (hzs : z.cells.size = 1)
    (v : Value) (n : Nat) (xs : List Value) (hs : a.eval s = .slice none 0 0) (hx : a.eval x = v) (hown : w.ownsRow 0 e 1 v n xs) (h1 : ∀ u ∈ xs, u.oneCell' = true)
    (hb : n ≤ 140737488355328)
    (h : ∀ v' w', w'.ownsRow w.heap.size e 1 v' n xs → w.grownBy w' none → wpList P ops Q rest (a.put o.dst v') w') : wpList P ops Q (o :: rest) a w := by
  have hown' := hown
  rcases hown.2 with ⟨rfl, h0⟩ | ⟨g, cap, cur, rfl, hB, hg, hnc, hcm, hcs, htk⟩
  · have hr := run_append_nil (P := P) w t o.type e i ht hi
    refine wpList_plain hgd fun K hK => ?_
    unfold Oper.wp execOp
    simp only [ho, resolve, invoke, builtin, Sem.run_bind, Sem.run_pure, Result.andThen_ok, List.map_toArray, List.map_cons, List.map_nil, hs, hx, hr]
    exact hK _ _ (h _ _ ⟨hown.1, .inl ⟨rfl, h0⟩⟩ ⟨rfl, rfl, rfl, Nat.le_refl _, fun _ _ _ => rfl⟩)
  · refine wpList_append_own w hgd s x t ho w.heap.size e i z 1 1 ht hi hz hsize hby hzs (by omega) (.slice none 0 0) 0 [] hs ⟨rfl, .inl ⟨rfl, rfl⟩⟩ ⟨g, 0, none⟩ n cap xs hx hown.1 ?_ h1 (by unfold maxLen; omega) (by omega) (Nat.le_refl _) ?_
    · intro j u hu
      have hj := (List.getElem?_eq_some_iff.1 hu).1
      rw [Addr.add_lit, Nat.zero_add, World.ownsRow.cellAt hown' j (by rw [← hown.1]; exact hj)]
      exact hu
    · intro v' w' h2 h3 _
      rw [Nat.zero_add, List.nil_append] at h2
      exact h v' w' h2 h3

/-- a row of bools at block g, which may be written -/
def BR (w : World) (B g L cap : Nat) (c : List Bool) : Prop := w.ownsRow B 4 1 (.slice (some ⟨g, 0, none⟩) L cap) L (c.map Value.bool)
theorem BR.len {w : World} {B g L cap : Nat} {c : List Bool} (h : BR w B g L cap c) : c.length = L := by
  have := h.1; simpa using this
theorem BR.cell {w : World} {B g L cap : Nat} {c : List Bool} (h : BR w B g L cap c) (k : Nat) (x : Bool) (hx : c[k]? = some x) : w.cell? ⟨g, k, none⟩ = some (.bool x) := by
  have hl := h.len
  have hk := (List.getElem?_eq_some_iff.1 hx).1
  rw [World.ownsRow.cellAt h k (by omega)]
  simp [hx]
theorem BR.free {w : World} {B g L cap : Nat} {c : List Bool} (h : BR w B g L cap c) (k : Nat) : w.frozen? ⟨g, k, none⟩ = false := World.ownsRow.frozenAt h k
theorem BR.set {w : World} {B g L cap : Nat} {c : List Bool} (h : BR w B g L cap c) (k : Nat) (v : Bool) : BR (w.setCell ⟨g, k, none⟩ (.bool v)) B g L cap (c.set k v) := by
  have := (World.ownsRow.stored h k (.bool v)).1
  unfold BR
  rw [List.map_set]
  exact this
theorem BR.block {w : World} {B g L cap : Nat} {c : List Bool} (h : BR w B g L cap c) : B ≤ g := by
  rcases h.2 with ⟨h0, _⟩ | ⟨g', cap', cur, hv, hB, _⟩
  · cases h0
  · simp only [Value.slice.injEq, Option.some.injEq, Addr.mk.injEq] at hv
    omega
theorem BR.of {w : World} {B g cap : Nat} {c : List Bool} (h : Bls w B (.slice (some ⟨g, 0, none⟩) c.length cap) c) (L : Nat) (hL : c.length = L) : BR w B g L cap c := by
  subst hL; exact h
theorem Bls.len {w : World} {B : Nat} {v : Value} {bs : List Bool} (h : Bls w B v bs) : ∃ a c, v = .slice a bs.length c := by
  rcases h.2 with ⟨rfl, h0⟩ | ⟨g, cap, cur, rfl, _⟩
  · exact ⟨none, 0, by rw [h0]⟩
  · exact ⟨_, _, rfl⟩
theorem xor_step (C S T R k : Nat) (x : Bool) (r : List Bool) (h : C ^^^ 2 ^ k * vb (x :: r) = R) (hS : S = C ^^^ 2 ^ k * x.toNat) (hT : T = k + 1) : S ^^^ 2 ^ T * vb r = R := by
  subst hT
  rw [hS, ← h, vb_shift, Nat.xor_assoc]

theorem one_cells (bs : List Bool) : ∀ u ∈ bs.map Value.bool, u.oneCell' = true := by
  intro u hu
  obtain ⟨x, _, rfl⟩ := List.mem_map.1 hu
  rfl

set_option maxHeartbeats 8000000 in
theorem left_core (ab : Option Addr) (cb gs caps gp capp n p : Nat) (bs ss ps : List Bool) (w : World) (HN : Hid (bs.length = n)) (HP : Hid (ps.length = p)) (HS : Hid (ss.length = p))
    (H1 : Hid (Bls w 0 (.slice ab n cb) bs)) (hgs : gs < w.heap.size) (hgp : gp < w.heap.size) (HCS : Hid (∀ j x, ss[j]? = some x → w.cell? ⟨gs, j, none⟩ = some (.bool x)))
    (HCP : Hid (∀ j x, ps[j]? = some x → w.cell? ⟨gp, j, none⟩ = some (.bool x))) (hb : n ≤ 1099511627776) (hp0 : 0 < p) (hp1 : p ≤ 16) :
    Calls Try.prog 31 #[.slice ab n cb, .slice (some ⟨gs, 0, none⟩) p caps, .slice (some ⟨gp, 0, none⟩) p capp] w fun e w' => ∃ g off cap, ∃ cs : List Bool, e = .returned (.slice (some ⟨g, off, none⟩) p cap) ∧ cs.length = p ∧
      (∀ j x, cs[j]? = some x → w'.cell? ⟨g, off + j, none⟩ = some (.bool x)) ∧ vb cs = sts (vb ps) n (vb bs ^^^ vb ss) ∧ Below w.heap.size w w' := by
  obtain ⟨i0, hi, hz0, hz1, hz2⟩ := info_parts info4
  go_enter Try.func31, Try.ntmps31
  go_wp2_with (at_builtin; (refine wpList_append_copy _ rfl _ _ 57 rfl 4 i0 _ Try.underlying57 hi hz0 hz1 hz2 rfl (.slice ab n cb) bs.length (bs.map Value.bool) rfl rfl H1.out (one_cells bs) (by rw [HN.out]; omega) ?_); intro v1 w1 hown1 hgrow1)
  have HO1 : Hid (Bls w1 w.heap.size v1 bs) := hown1
  have HB1 : Hid (Below w.heap.size w w1) := (Below.refl _ _).grown hgrow1 (Nat.le_refl _) (fun k hk => by cases hk)
  clear hown1 hgrow1 H1
  go_loopw [7, 17] (fun v i wr => ∃ k : Nat, k ≤ p ∧ i = .int .i64 (k : Int) ∧ Bls wr w.heap.size v (bs ++ List.replicate k false) ∧ Below w.heap.size w wr)
    (fun _ i _ => p - (intOf i).toNat)
  case atStart => exact ⟨0, Nat.zero_le _, rfl, by simpa using HO1.out, HB1.out⟩
  case round =>
    clear HO1 HB1
    obtain ⟨k, hk, rfl, hown, hbel⟩ := hrel
    have hsz := hbel.size
    by_cases hlt : k < p
    · have HO : Hid (Bls wr w.heap.size u7 (bs ++ List.replicate k false)) := hown
      obtain ⟨acc, hacc⟩ : ∃ acc, acc = bs ++ List.replicate k false := ⟨_, rfl⟩
      have hal : acc.length = n + k := by rw [hacc, List.length_append, List.length_replicate, HN.out]
      rw [← hacc] at HO
      have HA : Hid (acc ++ [false] = bs ++ List.replicate (k + 1) false) := by
        show _ = _; rw [hacc, List.append_assoc, List.replicate_succ']
      clear hown hacc
      go_wp2_with (at_builtin; (refine wpList_append_lies _ rfl _ _ 57 rfl w.heap.size 4 i0 _ 1 1 Try.underlying57 hi hz0 hz1 hz2 rfl (by omega) u7 acc.length (acc.map Value.bool) rfl (World.ownsRow.alloc HO.out _) ⟨wr.heap.size, 0, none⟩ 1 1 [.bool false] rfl rfl (World.news_of_block (cs := #[.bool false]) (t := 4) (fr := (0, 0)) (heap_alloc_new wr _)) (by simp [Value.oneCell']) (by omega) (by unfold maxLen; omega) (by omega) (by simp; omega) (wr.heap.size + 1) (by simp) ?_); intro g cap w1 hown1 hgrow hat hgl)
      go_wp2
      go_roundw
      case rel => exact ⟨k + 1, by omega, by go_num, by have h := Bls.push hown1; rw [hal] at h; rw [← HA.out]; exact h, (hbel.alloc hsz _).grown hgrow (by simp; omega) HO.out.block⟩
      case measure => simp [intOf]; omega
    · obtain rfl : p = k := by omega
      have hl0 : (bs ++ List.replicate p false).length = n + p := by rw [List.length_append, List.length_replicate, HN.out]
      obtain ⟨g, cap, rfl, hBg, _, hlc, hcm, _⟩ := hown.form (by omega)
      have hbr := BR.of hown (n + p) hl0
      rw [hl0] at hlc ⊢
      have hv0 : vb (bs ++ List.replicate p false) = vb bs := vb_zeros bs p
      have HBR : Hid (BR wr w.heap.size g (n + p) cap (bs ++ List.replicate p false)) := hbr
      have HV0 : Hid (vb (bs ++ List.replicate p false) = vb bs) := hv0
      have HBE : Hid (Below w.heap.size w wr) := hbel
      obtain ⟨c0, hc0⟩ : ∃ c0, c0 = bs ++ List.replicate p false := ⟨_, rfl⟩
      rw [← hc0] at HBR HV0
      clear hown hbr hv0 hbel hl0 hc0 hlt hsz
      unfold maxLen at hcm
      go_wp2_with fail
      go_loopw [25] (fun i wr => ∃ (k : Nat) (c : List Bool), k ≤ p ∧ i = .int .i64 (k : Int) ∧ BR wr w.heap.size g (n + p) cap c ∧ Below w.heap.size w wr ∧ Hid (vb c ^^^ 2 ^ k * vb (ss.drop k) = vb bs ^^^ vb ss))
        (fun i _ => p - (intOf i).toNat)
      case atStart => exact ⟨0, c0, Nat.zero_le _, rfl, HBR.out, HBE.out, by show _ = _; rw [HV0.out]; simp⟩
      case round =>
        clear HBR HBE HV0
        obtain ⟨k, c, hk, rfl, hrow, hbel, HR⟩ := hrel
        have hcl := hrow.len
        by_cases hlt : k < p
        · obtain ⟨x, hx⟩ : ∃ x, ss[k]? = some x := ⟨_, List.getElem?_eq_getElem (by rw [HS.out]; exact hlt)⟩
          obtain ⟨y, hy⟩ : ∃ y, c[k]? = some y := ⟨_, List.getElem?_eq_getElem (by omega)⟩
          have hcx := (hbel.cell (p := ⟨gs, k, none⟩) hgs).trans (HCS.out k x hx)
          have hcy := hrow.cell k y hy
          have hfr := hrow.free k
          have HQ : Hid (vb (c.set k (y != x)) ^^^ 2 ^ (k + 1) * vb (ss.drop (k + 1)) = vb bs ^^^ vb ss) := by
            have h := HR.out
            obtain ⟨hk', hx'⟩ := List.getElem?_eq_some_iff.1 hx
            rw [List.drop_eq_getElem_cons hk', hx'] at h
            exact xor_step _ _ _ _ k x _ h (vb_set c k y x hy) rfl
          have HRW : Hid (BR wr w.heap.size g (n + p) cap c) := hrow
          have HBL : Hid (Below w.heap.size w wr) := hbel
          clear HR hx hy hrow hbel
          go_wp2
          go_roundw
          case rel => exact ⟨k + 1, c.set k (y != x), by omega, by go_num, HRW.out.set k _, HBL.out.setCell hBg _, HQ⟩
          case measure => simp [intOf]; omega
        · obtain rfl : p = k := by omega
          have HR2 : Hid (sts (vb ps) (n - 0) (vb c / 2 ^ 0) = sts (vb ps) n (vb bs ^^^ vb ss)) := by
            have h := HR.out
            rw [List.drop_eq_nil_of_le (by rw [HS.out]; omega)] at h
            show _ = _
            rw [← h]; simp [vb]
          have HRW : Hid (BR wr w.heap.size g (n + p) cap c) := hrow
          have HBL : Hid (Below w.heap.size w wr) := hbel
          clear HR hrow hbel hlt hcl
          go_wp2_with fail
          go_loopw [42] (fun i wr => ∃ (k : Nat) (c : List Bool), k ≤ n ∧ i = .int .i64 (k : Int) ∧ BR wr w.heap.size g (n + p) cap c ∧ Below w.heap.size w wr ∧ Hid (sts (vb ps) (n - k) (vb c / 2 ^ k) = sts (vb ps) n (vb bs ^^^ vb ss)))
            (fun i _ => n - (intOf i).toNat)
          case atStart => exact ⟨0, c, Nat.zero_le _, rfl, HRW.out, HBL.out, HR2⟩
          case round =>
            clear HRW HBL HR2 hk
            clear c
            obtain ⟨i, c, hk, rfl, hrow, hbel, HR⟩ := hrel
            have hcl := hrow.len
            by_cases hlt : i < n
            · obtain ⟨y, hy⟩ : ∃ y, c[i]? = some y := ⟨_, List.getElem?_eq_getElem (by omega)⟩
              have hcy := hrow.cell i y hy
              have HRW : Hid (BR wr w.heap.size g (n + p) cap c) := hrow
              have HBL : Hid (Below w.heap.size w wr) := hbel
              have gi : (i : Int) < (n : Int) + (p : Int) := by omega
              cases y
              · have HQ : Hid (sts (vb ps) (n - (i + 1)) (vb c / 2 ^ (i + 1)) = sts (vb ps) n (vb bs ^^^ vb ss)) := (div_zero (vb ps) n i c hlt hy).trans HR.out
                clear HR hy hrow hbel
                go_wp2
                go_roundw
                case rel => exact ⟨i + 1, c, by omega, by go_num, HRW.out, HBL.out, HQ⟩
                case measure => simp [intOf]; omega
              · have HY : Hid (c[i]? = some true) := hy
                clear hy hrow hbel
                obtain ⟨wo, rfl⟩ : ∃ wo : World, wo = wr := ⟨_, rfl⟩
                go_wp2_with fail
                go_loopw [51] (fun q wr => ∃ (k : Nat) (d : List Bool), k ≤ p ∧ q = .int .i64 (k : Int) ∧ BR wr w.heap.size g (n + p) cap d ∧ Below w.heap.size w wr ∧ Hid (vb d ^^^ 2 ^ (i + 1 + k) * vb (ps.drop k) = vb c ^^^ 2 ^ (i + 1) * vb ps))
                  (fun q _ => p - (intOf q).toNat)
                case atStart => exact ⟨0, c, Nat.zero_le _, rfl, HRW.out, HBL.out, by show _ = _; simp⟩
                case round =>
                  clear HRW HBL hcy
                  obtain ⟨k, d, hkp, rfl, hrow, hbel, HD⟩ := hrel
                  have hdl := hrow.len
                  by_cases hlk : k < p
                  · obtain ⟨x, hx⟩ : ∃ x, ps[k]? = some x := ⟨_, List.getElem?_eq_getElem (by rw [HP.out]; exact hlk)⟩
                    obtain ⟨z, hz⟩ : ∃ z, d[i + 1 + k]? = some z := ⟨_, List.getElem?_eq_getElem (by omega)⟩
                    have hcx := (hbel.cell (p := ⟨gp, k, none⟩) hgp).trans (HCP.out k x hx)
                    have hcz := hrow.cell (i + 1 + k) z hz
                    have hfr := hrow.free (i + 1 + k)
                    have HQ : Hid (vb (d.set (i + 1 + k) (z != x)) ^^^ 2 ^ (i + 1 + (k + 1)) * vb (ps.drop (k + 1)) = vb c ^^^ 2 ^ (i + 1) * vb ps) := by
                      have h := HD.out
                      obtain ⟨hk', hx'⟩ := List.getElem?_eq_some_iff.1 hx
                      rw [List.drop_eq_getElem_cons hk', hx'] at h
                      exact xor_step _ _ _ _ (i + 1 + k) x _ h (vb_set d (i + 1 + k) z x hz) rfl
                    have HRW : Hid (BR wr w.heap.size g (n + p) cap d) := hrow
                    have HBL : Hid (Below w.heap.size w wr) := hbel
                    clear HD hx hz hrow hbel
                    go_wp2
                    go_roundw
                    case rel => exact ⟨k + 1, d.set (i + 1 + k) (z != x), by omega, by go_num, HRW.out.set _ _, HBL.out.setCell hBg _, HQ⟩
                    case measure => simp [intOf]; omega
                  · obtain rfl : p = k := by omega
                    have HQ : Hid (sts (vb ps) (n - (i + 1)) (vb d / 2 ^ (i + 1)) = sts (vb ps) n (vb bs ^^^ vb ss)) := by
                      have h := HD.out
                      rw [List.drop_eq_nil_of_le (by rw [HP.out]; omega)] at h
                      exact (div_one (vb ps) n i c d hlt HY.out (by simpa [vb] using h)).trans HR.out
                    clear HD HR HY
                    go_wp2
                    go_roundw
                    case rel => exact ⟨i + 1, d, by omega, by go_num, hrow, hbel, HQ⟩
                    case measure => simp [intOf]; omega
            · obtain rfl : n = i := by omega
              clear hlt
              go_wp2
              go_ret
              refine ⟨g, n, cap - n, c.drop n, rfl, by rw [List.length_drop]; omega, fun j x hx => ?_, ?_, hbel⟩
              · rw [List.getElem?_drop] at hx
                exact hrow.cell (n + j) x hx
              · have h := HR.out
                rw [Nat.sub_self] at h
                rw [← vb_drop]
                exact h

theorem left_any (vbits vs vp : Value) (bs ss ps : List Bool) (w : World) (h1 : Bls w 0 vbits bs) (h2 : Bls w 0 vs ss) (h3 : Bls w 0 vp ps) (hb : bs.length ≤ 1099511627776) (hp0 : 0 < ps.length) (hp1 : ps.length ≤ 16) (hs : ss.length = ps.length) :
    Calls Try.prog 31 #[vbits, vs, vp] w fun e w' => ∃ g off cap, ∃ cs : List Bool, e = .returned (.slice (some ⟨g, off, none⟩) cs.length cap) ∧ cs.length = ps.length ∧
      (∀ j x, cs[j]? = some x → w'.cell? ⟨g, off + j, none⟩ = some (.bool x)) ∧ vb cs = sts (vb ps) bs.length (vb bs ^^^ vb ss) ∧ Below w.heap.size w w' := by
  obtain ⟨gs, caps, rfl, _, hgs, _, _, hcs⟩ := h2.form (by omega)
  obtain ⟨gp, capp, rfl, _, hgp, _, _, hcp⟩ := h3.form hp0
  obtain ⟨ab, cb, rfl⟩ := h1.len
  have h := left_core ab cb gs caps gp capp bs.length ps.length bs ss ps w rfl rfl hs h1 hgs hgp hcs hcp hb hp0 hp1
  rw [hs]
  refine h.mono fun e w' ⟨g, off, cap, cs, he, hl, hc, hv, hbel⟩ => ⟨g, off, cap, cs, by rw [hl]; exact he, hl, hc, hv, hbel⟩
theorem Bls.laid (w : World) (bs : List Bool) (h : bs.length ≤ maxLen) : Bls (w.alloc (.cells (bs.map Value.bool).toArray 4)) 0 (.slice (some ⟨w.heap.size, 0, none⟩) bs.length bs.length) bs :=
  ⟨by simp, .inr ⟨w.heap.size, bs.length, _, rfl, Nat.zero_le _, heap_alloc_new w _, Nat.le_refl _, h, by simp, by simp [List.take_of_length_le]⟩⟩
end Go.Proofs.Ytepifjimfcnggaa.crc
