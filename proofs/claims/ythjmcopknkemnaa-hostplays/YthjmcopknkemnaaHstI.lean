/- host: rows of numbers that grow, beside boxes; what New answers. -/
import Derived.Test.YthjmcopknkemnaaHstH
import Derived.Test.YthjmcopknkemnaaHstN
import Derived.Test.YthjmcopknkemnaaRngN
import Derived.Great.BuildSlice
namespace Go.Proofs.Ythjmcopknkemnaa.host
open Go Go.RowKit
open Go.Proofs.Ythjmcopknkemnaa
open Go.Proofs.Ythjmcopknkemnaa.slots (Row row_board row_cmd Chg ag fl Wf bsq balloc bx_lt)
open Go.Proofs.Ythjmcopknkemnaa.ring (Ces Rcs rgV rgW Rg Ce ceV named keep)
set_option linter.unusedVariables false
set_option linter.unusedSimpArgs false
set_option maxRecDepth 100000

/-- elements of k numbers -/
structure El (t e : TypeId) (k : Nat) : Prop where
  u : Try.prog.underlying t = some (.slice e)
  i : ∃ i z b, Try.prog.info? e = some i ∧ i.zero = some z ∧ i.size = k ∧ i.bytes = b ∧ z.cells.size = k ∧ b ≤ 1000
  p : 0 < k
  s : k ≤ 100
  c : e ≠ 91
theorem el_of {t e : TypeId} {k b : Nat} {z : Value} (hu : Try.prog.underlying t = some (.slice e)) (h : (Try.prog.info? e).map (fun i => (i.zero, i.size, i.bytes)) = some (some z, k, b)) (hz : z.cells.size = k) (hp : 0 < k) (hs : k ≤ 100) (hb : b ≤ 1000) (hc : e ≠ 91) : El t e k := by
  refine ⟨hu, ?_, hp, hs, hc⟩
  cases hq : Try.prog.info? e with
  | none => simp [hq] at h
  | some i => simp [hq] at h; exact ⟨i, z, b, rfl, h.1, h.2.1, h.2.2, hz, hb⟩
theorem el_errno : El 58 25 1 := el_of (b := 8) (z := .int .i64 0) Try.underlying58 (by kernel_rfl) rfl (by omega) (by omega) (by omega) (by decide)
theorem el_event : El 57 52 3 := el_of (b := 24) (z := agv (ivs [0, 0, 0])) Try.underlying57 (by kernel_rfl) rfl (by omega) (by omega) (by omega) (by decide)
def cls (L : List (List Int)) : List Value := ivs L.flatten
theorem cls_app (L M : List (List Int)) : cls (L ++ M) = cls L ++ cls M := by simp [cls, ivs]
theorem cls_one (L : List (List Int)) : ∀ u ∈ cls L, u.oneCell' = true := fun u hu => by obtain ⟨x, _, rfl⟩ := List.mem_map.1 hu; rfl
theorem cls_len {k : Nat} : ∀ {L : List (List Int)}, (∀ x ∈ L, x.length = k) → (cls L).length = L.length * k
  | [], _ => by simp [cls, ivs]
  | x :: r, h => by
    have ih := cls_len (k := k) (L := r) (fun y hy => h y (by simp [hy]))
    have hx := h x (by simp)
    rw [show cls (x :: r) = ivs x ++ cls r by simp [cls, ivs], List.length_append, ih, List.length_cons, Nat.add_mul]
    simp [ivs, hx]; omega
theorem cls_at {k : Nat} : ∀ {L : List (List Int)} {i j : Nat} {x : List Int}, (∀ x ∈ L, x.length = k) → L[i]? = some x → j < k → (cls L)[i * k + j]? = (ivs x)[j]?
  | [], i, j, x, _, h, _ => by simp at h
  | y :: r, 0, j, x, hl, h, hj => by
    simp at h; subst h
    have hy := hl y (by simp)
    rw [show cls (y :: r) = ivs y ++ cls r by simp [cls, ivs], Nat.zero_mul, Nat.zero_add, List.getElem?_append_left (by simp [ivs, hy]; omega)]
  | y :: r, i + 1, j, x, hl, h, hj => by
    have hy := hl y (by simp)
    have ih := cls_at (L := r) (i := i) (j := j) (x := x) (fun z hz => hl z (by simp [hz])) (by simpa using h) hj
    rw [show cls (y :: r) = ivs y ++ cls r by simp [cls, ivs], List.getElem?_append_right (by simp [ivs, hy, Nat.add_mul]; omega), ← ih]
    congr 1
    simp [ivs, hy, Nat.add_mul]; omega
/-- a slice that reads as these rows -/
def Rds (k : Nat) (w : World) (v : Value) (L : List (List Int)) : Prop :=
  ∃ a c, v = .slice a L.length c ∧ L.length ≤ c ∧ c ≤ maxLen ∧ (∀ x ∈ L, x.length = k) ∧ (0 < L.length → ∃ g off, a = some ⟨g, off, none⟩ ∧ g < w.heap.size ∧ ∀ j x, L[j]? = some x → w.rangeAt g (off + j * k) (ivs x))
theorem Rds.nil (k : Nat) (w : World) : Rds k w (.slice none 0 0) [] := ⟨none, 0, rfl, Nat.le_refl _, Nat.zero_le _, fun x hx => absurd hx (by simp), fun h => by simp at h⟩
theorem Rds.below {k : Nat} {w u : World} {v : Value} {L : List (List Int)} (h : Rds k w v L) (hb : Below w.heap.size w u) : Rds k u v L := by
  obtain ⟨a, c, hv, h1, h2, h3, h4⟩ := h
  refine ⟨a, c, hv, h1, h2, h3, fun hn => ?_⟩
  obtain ⟨g, off, ha, hg, hc⟩ := h4 hn
  exact ⟨g, off, ha, Nat.lt_of_lt_of_le hg hb.size, fun j x hx r y hy => (hb.cell (p := ⟨g, off + j * k + r, none⟩) hg).trans (hc j x hx r y hy)⟩
theorem Rds.form {k : Nat} {w : World} {v : Value} {L : List (List Int)} (h : Rds k w v L) : ∃ a c, v = .slice a L.length c ∧ L.length ≤ c ∧ c ≤ maxLen := by
  obtain ⟨a, c, h, h1, h2, _⟩ := h; exact ⟨_, _, h, h1, h2⟩
theorem Rds.len {k : Nat} {w : World} {v : Value} {L : List (List Int)} (h : Rds k w v L) : ∀ x ∈ L, x.length = k := by
  obtain ⟨a, c, h, h1, h2, h3, _⟩ := h; exact h3
theorem Rds.at {k : Nat} {w : World} {a : Option Addr} {n c : Nat} {L : List (List Int)} (h : Rds k w (.slice a n c) L) (j : Nat) (x : List Int) (hk : L[j]? = some x) : ∃ g off, a = some ⟨g, off, none⟩ ∧ ∀ u, Below w.heap.size w u → u.rangeAt g (off + j * k) (ivs x) := by
  obtain ⟨a', c', hv, h1, h2, h3, h4⟩ := h
  have hl := (List.getElem?_eq_some_iff.1 hk).1
  obtain ⟨g, off, ha, hg, hc⟩ := h4 (by omega)
  have : a = a' := by injection hv
  exact ⟨g, off, this.trans ha, fun u hu r y hy => (hu.cell (p := ⟨g, off + j * k + r, none⟩) hg).trans (hc j x hk r y hy)⟩
/-- the value v owns these rows, in a block from B on -/
structure Ows (e : TypeId) (k : Nat) (w : World) (B : Nat) (v : Value) (L : List (List Int)) : Prop where
  o : w.ownsRow B e k v L.length (cls L)
  l : ∀ x ∈ L, x.length = k
theorem Ows.nil (e : TypeId) (k : Nat) (w : World) (B : Nat) : Ows e k w B (.slice none 0 0) [] := ⟨⟨by simp [cls, ivs], .inl ⟨rfl, rfl⟩⟩, fun x hx => absurd hx (by simp)⟩
section
variable {e t : TypeId} {k : Nat} {w u x : World} {B : Nat} {v : Value} {L : List (List Int)}
theorem Ows.below (h : Ows e k w B v L) (hb : Below w.heap.size w u) : Ows e k u B v L := ⟨ring.own_below h.o hb, h.l⟩
theorem Ows.mono {B' : Nat} (h : Ows e k w B v L) (hb : B' ≤ B) : Ows e k w B' v L := ⟨World.ownsRow.mono h.o hb, h.l⟩
theorem Ows.rds (h : Ows e k w B v L) : Rds k w v L := by
  have h' := h.o
  rcases h.o.2 with ⟨rfl, h0⟩ | ⟨g, cap, cur, rfl, hB, hg, hnc, hcm, hs, ht⟩
  · rw [List.eq_nil_of_length_eq_zero h0]; exact Rds.nil _ _
  · refine ⟨_, cap, rfl, hnc, hcm, h.l, fun _ => ⟨g, 0, rfl, (Array.getElem?_eq_some_iff.1 hg).1, fun j y hy r z hz => ?_⟩⟩
    have hj := (List.getElem?_eq_some_iff.1 hy).1
    have hlen := h.l y (List.mem_of_getElem? hy)
    have hr : r < k := by have := (List.getElem?_eq_some_iff.1 hz).1; simp [ivs, hlen] at this; exact this
    have hb : j * k + r < L.length * k := by
      have : (j + 1) * k ≤ L.length * k := Nat.mul_le_mul_right _ hj
      rw [Nat.add_mul] at this
      omega
    rw [Nat.zero_add, World.ownsRow.cellAt h' (j * k + r) hb, cls_at h.l hy hr]
    exact hz
theorem Ows.kind (h : Ows e k w B v L) {X : Nat} {T : TypeId} {r : List Value} (hX : w.heap[X]? = some (bv T r)) (hT : T ≠ e) : v.ownBlock ≠ some X := by
  intro q
  obtain ⟨c, fz, h1⟩ := Lib.ownsRow_kind h.o X q
  rw [hX] at h1
  injection h1 with h1
  injection h1 with _ h1 _
  exact hT h1
theorem chg_grown {X : Nat} (h : Chg X w u) : w.grownBy u (some X) := by
  have hb := h.below 0 w (Nat.zero_le _) (Below.refl _ _)
  exact ⟨hb.os, hb.tape, hb.output, by rw [h.size]; exact Nat.le_refl _, fun k _ hk => h.other k (fun e => hk (by rw [e]))⟩
theorem Ows.chg (h : Ows e k w B v L) {X : Nat} (hX : v.ownBlock ≠ some X) (hc : Chg X w u) : Ows e k u B v L := ⟨World.ownsRow.kept h.o (chg_grown hc) (.inr hX), h.l⟩
theorem Ows.lt (h : Ows e k w B v L) {X : Nat} (hX : v.ownBlock = some X) : B ≤ X ∧ X < w.heap.size := World.ownsRow.lt h.o X hX
theorem Ows.kept (h : Ows e k w B v L) {row : Option Nat} (hg : w.grownBy u row) (hn : v.ownBlock = none ∨ v.ownBlock ≠ row) : Ows e k u B v L := ⟨World.ownsRow.kept h.o hg (by
  rcases hn with q | q
  · exact .inl q
  · exact .inr q), h.l⟩
/-- one element behind the others -/
theorem Ows.app (hE : El t e k) (h : Ows e k w B v L) (ad : Addr) (c : Nat) (y : List Int) (hy : y.length = k) (hx : ∀ j z, (ivs y)[j]? = some z → w.cell? (ad.add j) = some z) (hl : L.length ≤ 100000) (hB : B ≤ w.heap.size) (ty : TypeId) :
    ∃ v' w', (Builtin.append_ #[t, t] ty #[v, .slice (some ad) 1 c]).run Try.prog w = .ok v' w' ∧ Ows e k w' B v' (L ++ [y]) ∧ w.grownBy w' v.ownBlock ∧ Below B w w' := by
  obtain ⟨i, z, b, hi, hz0, hz1, hz2, hz3, hb⟩ := hE.i
  obtain ⟨v', w', q1, q2, q3, _⟩ := run_append_own (P := Try.prog) w B t ty e i z k b hE.u hi hz0 hz1 hz2 hz3 hE.p v L.length (cls L) h.o ad 1 c (ivs y) (by simp [ivs, hy]) hx (fun u hu => by obtain ⟨x, _, rfl⟩ := List.mem_map.1 hu; rfl) (by unfold maxLen; omega) (by
    have : (L.length + 1) * b ≤ 100001 * 1000 := Nat.mul_le_mul (by omega) hb
    omega) hB
  refine ⟨v', w', q1, ⟨?_, fun x hx => ?_⟩, q3, (Below.refl _ _).grown q3 hB (ring.own_block h.o)⟩
  · rw [List.length_append, cls_app, show cls [y] = ivs y by simp [cls]]
    exact q2
  · rcases List.mem_append.1 hx with q | q
    · exact h.l x q
    · rw [List.mem_singleton.1 q]; exact hy
theorem Mv.grow {L0 : List Bk} {R : List (Bool × Value × List Ce)} (h : Mv w u L0 R) (ho : Ows e k u B v L) (he : e ≠ 91) (ht : ∀ x ∈ L0, x.2.1 ≠ e) (hg : u.grownBy x v.ownBlock) (hB : Below w.heap.size u x) : Mv w x L0 R := by
  refine ⟨fun y hy => ?_, h.own, h.ap, h.ty, fun y hy => ?_, h.below.trans hB⟩
  · have hl := h.lies y hy
    exact (hg.block y.1 (bx_lt hl) (fun q => ho.kind hl (ht y hy) q.symm)).trans hl
  · have q := h.rows y hy
    obtain ⟨b, y, C⟩ := y
    cases b
    · exact q
    · refine World.ownsRow.kept q hg ?_
      cases hv : y.ownBlock with
      | none => exact .inl rfl
      | some X =>
        right
        intro hq
        obtain ⟨c1, f1, h1⟩ := Lib.ownsRow_kind q X hv
        obtain ⟨c2, f2, h2⟩ := Lib.ownsRow_kind ho.o X hq.symm
        rw [h1] at h2
        injection h2 with h2
        injection h2 with _ h2 _
        exact he h2.symm
end
theorem Mv.sub {w u : World} {L L' : List Bk} {R R' : List (Bool × Value × List Ce)} (h : Mv w u L R) (hL : L'.Sublist L) (hR : ∀ x ∈ R', x ∈ R) : Mv w u L' R' :=
  ⟨fun y hy => h.lies y (hL.subset hy), fun y hy => h.own y (hL.subset hy), h.ap.sublist (hL.map _), fun y hy => h.ty y (hL.subset hy), fun y hy => h.rows y (hR y hy), h.below⟩
theorem fill_val {place : Nat → Option (Nat × Nat)} {l V : List Value} {v : Value} {i off n : Nat} {rest : List (Nat × Value)} (hv : v.cells = V.toArray) (hp : place i = some (off, n)) (hV : V.length = n) (hl : off + n ≤ l.length) : Instr.fill place l.toArray ((i, v) :: rest) = Instr.fill place (ptv l off V).toArray rest := by
  have := fill_one (place := place) (l := l) (V := V) (i := i) (off := off) (n := n) (rest := rest) hp hV hl
  rw [Instr.fill] at this ⊢
  rw [show (agv V).cells = V.toArray from rfl] at this
  rw [hv]
  exact this
/-- one element in a new row -/
theorem run_bs {t e : TypeId} {k : Nat} (hE : El t e k) {v : Value} {V : List Value} (hv : v.cells = V.toArray) (hV : V.length = k) (w : World) : (Instr.buildSlice t 1 #[(0, v)]).run Try.prog w = .ok (.slice (some ⟨w.heap.size, 0, none⟩) 1 1) (w.alloc (bv e V)) := by
  obtain ⟨i, z, b, hi, hz0, hz1, hz2, hz3, hb⟩ := hE.i
  have h1 := hE.p
  have h2 := hE.s
  refine run_buildSlice w t e 1 _ V.toArray i z hE.u hi hz0 (by rw [hz1]; omega) (by rw [hz1]; omega) ?_
  rw [hz1]
  obtain ⟨l, hl⟩ : ∃ l : List Value, ((Array.range (1 * k)).map (z.cells[· % z.cells.size]!)) = l.toArray := ⟨_, (Array.toArray_toList).symm⟩
  have hlen : l.length = k := by
    have := congrArg Array.size hl
    simp at this
    omega
  rw [hl]
  show Instr.fill _ l.toArray [(0, v)] = _
  rw [fill_val (off := 0) (n := k) hv (by simp) hV (by omega), ptv_all (by omega)]
  rfl
section
variable {ops : Array Oper} {rest : List Oper} {o : Oper} {a : Act} {w : World} {Q : Exit → Act → World → Prop}
theorem v_bs (hgd : Region.wanted o (yielded ops a.tmps) = true) {t e : TypeId} {k : Nat} {x : Operand} (ho : o.op = .buildSlice t 1 #[(0, x)]) (hE : El t e k) {v : Value} (hx : a.eval x = v) {V : List Value} (hv : v.cells = V.toArray) (hV : V.length = k)
    (h : ∀ u g, Below w.heap.size w u → (∀ j z, V[j]? = some z → u.cell? ⟨g, j, none⟩ = some z) → wpList Try.prog ops Q rest (a.put o.dst (.slice (some ⟨g, 0, none⟩) 1 1)) u) : wpList Try.prog ops Q (o :: rest) a w := by
  refine wpList_step fun K hK' => ?_
  rw [if_pos hgd]
  unfold Oper.wp execOp
  simp only [ho, List.map_toArray, List.map_cons, List.map_nil, hx, Sem.run_bind, run_bs hE hv hV, Result.andThen_ok, Sem.run_pure]
  exact hK' _ _ (h _ _ (balloc _ _) (fun j z hz => bv_cell (MapKept.heap_alloc w _).1 hz))
theorem v_app (hgd : Region.wanted o (yielded ops a.tmps) = true) {t e : TypeId} {k : Nat} {s x : Operand} (ho : o.op = .call { callee := .builtin .append, args := #[s, x], argTypes := #[t, t] }) (hE : El t e k)
    {v1 : Value} {L : List (List Int)} {g B : Nat} {y : List Int} (hs : a.eval s = v1) (hx : a.eval x = .slice (some ⟨g, 0, none⟩) 1 1) (hO : Ows e k w B v1 L) (hc : ∀ j z, (ivs y)[j]? = some z → w.cell? ⟨g, j, none⟩ = some z) (hy : y.length = k) (hl : L.length ≤ 100000) (hB : B ≤ w.heap.size)
    (h : ∀ u v', Ows e k u B v' (L ++ [y]) → w.grownBy u v1.ownBlock → Below B w u → wpList Try.prog ops Q rest (a.put o.dst v') u) : wpList Try.prog ops Q (o :: rest) a w := by
  refine wpList_step fun K hK' => ?_
  rw [if_pos hgd]
  obtain ⟨v', w', hr, h1, h2, h3⟩ := Ows.app hE hO ⟨g, 0, none⟩ 1 y hy (fun j z hz => by rw [Addr.add_lit, Nat.zero_add]; exact hc j z hz) hl hB o.type
  have hq : (execOp a.eval o).run Try.prog w = .ok (.value v') w' := by
    unfold execOp
    simp only [ho, resolve, invoke, builtin, Sem.run_bind, Sem.run_pure, Result.andThen_ok, List.map_toArray, List.map_cons, List.map_nil, hs, hx, hr]
  unfold Oper.wp
  rw [hq]
  exact hK' _ _ (h w' v' h1 h2 h3)
/-- an element of a slice is read -/
theorem v_ldR (hgd : Region.wanted o (yielded ops a.tmps) = true) {t : TypeId} {x : Operand} (ho : o.op = .load t x)
    {B k n : Nat} (hT : Row t n) {V : List Value} (hx : a.eval x = .pointer (some ⟨B, k, none⟩)) (hB : w.rangeAt B k V) (hl : V.length = n)
    (h : wpList Try.prog ops Q rest (a.put o.dst (agv V)) w) : wpList Try.prog ops Q (o :: rest) a w := by
  obtain ⟨d, h1, h2, h3⟩ := hT.ex
  have hr := run_loadAt_mid w B k t V d hB h1 h2 (by rw [h3, hl])
  refine wpList_step fun K hK' => ?_
  rw [if_pos hgd]
  unfold Oper.wp execOp
  simp only [ho, hx, Sem.run_bind, hr, Result.andThen_ok, Sem.run_pure]
  exact hK' _ _ h
end
theorem bld_m0 (w : World) : (Instr.build 43 #[]).run Try.prog w = .ok (agv zl) w := by rw [zl_is]; kernel_rfl
theorem bld_m2 {V1 V2 : List Value} (h1 : Vs V1 6) (h2 : Vs V2 6) (w : World) : (Instr.build 43 #[(0, agv V1), (1, agv V2)]).run Try.prog w = .ok (agv (V1 ++ (V2 ++ ivs (fl slots.zB)))) w := by
  refine run_build w _ _ _ ?_
  obtain ⟨it, hit, hz⟩ : ∃ it, Try.prog.info? 43 = some it ∧ it.zero = some (agv zl) := by
    have := zer_mach.eq
    cases hq : Try.prog.info? 43 with
    | none => simp [hq] at this
    | some i => exact ⟨i, rfl, by simpa [hq] using this⟩
  unfold Program.built
  rw [hit, und_mach]
  simp only
  rw [hz, places_m]
  simp only
  have hzl := zl_vs.len
  have a1 := h1.len
  have a2 := h2.len
  have e0 : (agv zl).cells = zl.toArray := rfl
  rw [e0, fill_one (off := 0) (n := 6) rfl a1 (by omega), fill_one (off := 6) (n := 6) rfl a2 (by rw [ptv_len (by omega)]; omega)]
  have q1 : ptv zl 0 V1 = V1 ++ (rgl nilS ring.zR ++ ivs (fl slots.zB)) := ptv_mid [] (rgl nilS ring.zR) _ V1 a1
  have q2 : ptv (V1 ++ (rgl nilS ring.zR ++ ivs (fl slots.zB))) 6 V2 = V1 ++ (V2 ++ ivs (fl slots.zB)) := by
    have := ptv_mid V1 (rgl nilS ring.zR) (ivs (fl slots.zB)) V2 a2
    rw [a1] at this
    exact this
  rw [q1, q2]
  rfl
/-- New -/
def nmB (c e : Int) : Bool := ring.cnB c && ring.cnB e
def nmV (c e : Int) : Mc := if nmB c e = true then mcs (c.toNat - 1) (e.toNat - 1) ps0 else zM
def nmC (c e : Int) : Int := if nmB c e = true then 0 else 1
set_option maxHeartbeats 4000000 in
theorem new_any (c e : Int) (w : World) : Calls Try.prog 22 #[.int .i64 c, .int .i64 e] w fun r w' => ∃ vc ve, r = .returned (.tuple #[agv (mvl vc ve (nmV c e)), .int .i64 (nmC c e)]) ∧ Tl w vc ve (nmV c e) w' := by
  have HN1 : Hid (∀ u, Calls Try.prog 49 #[.int .i64 c] u fun e w' => ∃ v', e = .returned (.tuple #[agv (rgl v' (ring.nwR c)), .int .i64 (ring.nwC c)]) ∧ ring.Tel u v' (ring.nwR c) w') := ring.New_any c
  have HN2 : Hid (∀ u, Calls Try.prog 49 #[.int .i64 e] u fun r w' => ∃ v', r = .returned (.tuple #[agv (rgl v' (ring.nwR e)), .int .i64 (ring.nwC e)]) ∧ ring.Tel u v' (ring.nwR e) w') := ring.New_any e
  have HZ : Hid (zl.length = 606) := zl_vs.len
  have HZV : Hid (Vs zl 606) := zl_vs
  have HZR : Hid ((rgl nilS ring.zR).length = 6) := rfl
  have HZL : Hid (zl = mvl nilS nilS zM ∧ zM.c.C = [] ∧ zM.e.C = []) := ⟨rfl, rfl, rfl⟩
  have hb0 := bld_m0
  have hM := Mv.nil w
  cases h1 : ring.cnB c
  · have HQ : Hid (nmV c e = zM ∧ nmC c e = 1) := by unfold nmV nmC nmB; rw [h1]; exact ⟨rfl, rfl⟩
    have q1 : ring.nwC c = 1 := by unfold ring.nwC; rw [h1]; rfl
    rw [q1] at HN1
    rw [HQ.out.1, HQ.out.2]
    generalize ring.nwR c = R1 at *
    clear h1 HN2 HQ q1
    go_enter Try.func22, Try.ntmps22
    repeat' (first | (go_big_may; first | (refine v_alloc rfl zer_mach rfl ?_; intro u xr hN; replace hM := hM.new hN (by decide); clear hN)) | go_values | go_skip | go_guarded | go_step | go_upon | (simp only [Int.not_lt, Int.not_le] at *; go_simp))
    refine (HN1.out _).mono ?_
    rintro r u1 ⟨v1, rfl, ht⟩
    replace hM := hM.tel ht.1 ht.2
    have H3 : Hid (Vs (rgl v1 R1) 6) := rgl_vs (rcs_one ht.1.rcs)
    clear ht
    repeat' (first | (go_big_may; first | (refine v_alloc rfl zer_ring rfl ?_; intro u xg hN; replace hM := hM.new hN (by decide); clear hN) | (refine v_fill rfl rfl row_ring rfl rfl hM.at0 H3.out HZR.out ?_; intro u hv hc; replace hM := hM.put0 hc hv; clear hv hc) | (refine v_build rfl rfl hb0 (by simp [Act.eval, Act.put]) ?_) | (refine v_fill rfl rfl row_mach rfl rfl hM.at1 HZV.out HZ.out ?_; intro u hv hc; replace hM := hM.put1 hc hv; clear hv hc)) | go_values | go_skip | go_guarded | go_step | go_upon | (simp only [Int.not_lt, Int.not_le] at *; go_simp))
    exact bodyPost_ret (slots.ret_2 Try.results22 rfl (ld_var row_mach hM.at1 HZ.out) rfl) rfl ⟨nilS, nilS, rfl, Ces.nil _ _, Ces.nil _ _, hM.below⟩
  have q1 : ring.nwC c = 0 := by unfold ring.nwC; rw [h1]; rfl
  rw [q1] at HN1
  cases h2 : ring.cnB e
  · have HQ : Hid (nmV c e = zM ∧ nmC c e = 1) := by unfold nmV nmC nmB; rw [h1, h2]; exact ⟨rfl, rfl⟩
    have q2 : ring.nwC e = 1 := by unfold ring.nwC; rw [h2]; rfl
    rw [q2] at HN2
    rw [HQ.out.1, HQ.out.2]
    generalize ring.nwR c = R1 at *
    generalize ring.nwR e = R2 at *
    clear h1 h2 HQ q1 q2
    go_enter Try.func22, Try.ntmps22
    repeat' (first | (go_big_may; first | (refine v_alloc rfl zer_mach rfl ?_; intro u xr hN; replace hM := hM.new hN (by decide); clear hN)) | go_values | go_skip | go_guarded | go_step | go_upon | (simp only [Int.not_lt, Int.not_le] at *; go_simp))
    refine (HN1.out _).mono ?_
    rintro r u1 ⟨v1, rfl, ht⟩
    replace hM := hM.tel ht.1 ht.2
    have H3 : Hid (Vs (rgl v1 R1) 6) := rgl_vs (rcs_one ht.1.rcs)
    clear ht
    repeat' (first | (go_big_may; first | (refine v_alloc rfl zer_ring rfl ?_; intro u xg hN; replace hM := hM.new hN (by decide); clear hN) | (refine v_fill rfl rfl row_ring rfl rfl hM.at0 H3.out HZR.out ?_; intro u hv hc; replace hM := hM.put0 hc hv; clear hv hc)) | go_values | go_skip | go_guarded | go_step | go_upon | (simp only [Int.not_lt, Int.not_le] at *; go_simp))
    refine (HN2.out _).mono ?_
    rintro r u2 ⟨v2, rfl, ht⟩
    replace hM := hM.tel ht.1 ht.2
    have H4 : Hid (Vs (rgl v2 R2) 6) := rgl_vs (rcs_one ht.1.rcs)
    clear ht
    repeat' (first | (go_big_may; first | (refine v_alloc rfl zer_ring rfl ?_; intro u xh hN; replace hM := hM.new hN (by decide); clear hN) | (refine v_fill rfl rfl row_ring rfl rfl hM.at0 H4.out HZR.out ?_; intro u hv hc; replace hM := hM.put0 hc hv; clear hv hc) | (refine v_build rfl rfl hb0 (by simp [Act.eval, Act.put]) ?_) | (refine v_fill rfl rfl row_mach rfl rfl hM.at2 HZV.out HZ.out ?_; intro u hv hc; replace hM := hM.put2 hc hv; clear hv hc)) | go_values | go_skip | go_guarded | go_step | go_upon | (simp only [Int.not_lt, Int.not_le] at *; go_simp))
    exact bodyPost_ret (slots.ret_2 Try.results22 rfl (ld_var row_mach hM.at2 HZ.out) rfl) rfl ⟨nilS, nilS, rfl, Ces.nil _ _, Ces.nil _ _, hM.below⟩
  have q2 : ring.nwC e = 0 := by unfold ring.nwC; rw [h2]; rfl
  rw [q2] at HN2
  have r1 : ring.nwR c = ring.st (c.toNat - 1) [] 0 0 := by unfold ring.nwR; rw [if_pos h1]
  have r2 : ring.nwR e = ring.st (e.toNat - 1) [] 0 0 := by unfold ring.nwR; rw [if_pos h2]
  have HQ : Hid (nmV c e = mcs (c.toNat - 1) (e.toNat - 1) ps0 ∧ nmC c e = 0) := by unfold nmV nmC nmB; rw [h1, h2]; exact ⟨rfl, rfl⟩
  rw [HQ.out.1, HQ.out.2]
  have HMC : Hid (∀ x y, mvl x y (mcs (c.toNat - 1) (e.toNat - 1) ps0) = rgl x (ring.nwR c) ++ (rgl y (ring.nwR e) ++ ivs (fl slots.zB))) := fun x y => by rw [r1, r2]; rfl
  have HCC : Hid ((mcs (c.toNat - 1) (e.toNat - 1) ps0).c.C = (ring.nwR c).C ∧ (mcs (c.toNat - 1) (e.toNat - 1) ps0).e.C = (ring.nwR e).C) := by rw [r1, r2]; exact ⟨rfl, rfl⟩
  generalize mcs (c.toNat - 1) (e.toNat - 1) ps0 = M at *
  generalize ring.nwR c = R1 at *
  generalize ring.nwR e = R2 at *
  clear h1 h2 HQ q1 q2 r1 r2
  go_enter Try.func22, Try.ntmps22
  repeat' (first | (go_big_may; first | (refine v_alloc rfl zer_mach rfl ?_; intro u xr hN; replace hM := hM.new hN (by decide); clear hN)) | go_values | go_skip | go_guarded | go_step | go_upon | (simp only [Int.not_lt, Int.not_le] at *; go_simp))
  refine (HN1.out _).mono ?_
  rintro r u1 ⟨v1, rfl, ht⟩
  replace hM := hM.tel ht.1 ht.2
  have H3 : Hid (Vs (rgl v1 R1) 6) := rgl_vs (rcs_one ht.1.rcs)
  clear ht
  repeat' (first | (go_big_may; first | (refine v_alloc rfl zer_ring rfl ?_; intro u xg hN; replace hM := hM.new hN (by decide); clear hN) | (refine v_fill rfl rfl row_ring rfl rfl hM.at0 H3.out HZR.out ?_; intro u hv hc; replace hM := hM.put0 hc hv; clear hv hc)) | go_values | go_skip | go_guarded | go_step | go_upon | (simp only [Int.not_lt, Int.not_le] at *; go_simp))
  refine (HN2.out _).mono ?_
  rintro r u2 ⟨v2, rfl, ht⟩
  replace hM := hM.tel ht.1 ht.2
  have H4 : Hid (Vs (rgl v2 R2) 6) := rgl_vs (rcs_one ht.1.rcs)
  clear ht
  have hbm : ∀ w, (Instr.build 43 #[(0, agv (rgl v1 R1)), (1, agv (rgl v2 R2))]).run Try.prog w = .ok (agv (mvl v1 v2 M)) w := fun w => by
    rw [HMC.out]
    exact bld_m2 H3.out H4.out w
  have H5 : Hid (Vs (mvl v1 v2 M) 606) := by rw [HMC.out]; exact H3.out.app (H4.out.app (ivs_vs slots.zB_wf.length))
  have HL3 : Hid (0 + 6 ≤ (rgl v1 R1).length) := Nat.le_refl _
  have HA3 : Hid (cv (rgl v1 R1) 0 6 = rgl v1 R1) := rfl
  have HL4 : Hid (0 + 6 ≤ (rgl v2 R2).length) := Nat.le_refl _
  have HA4 : Hid (cv (rgl v2 R2) 0 6 = rgl v2 R2) := rfl
  clear HMC
  repeat' (first | (go_big_may; first | (refine v_alloc rfl zer_ring rfl ?_; intro u xh hN; replace hM := hM.new hN (by decide); clear hN) | (refine v_fill rfl rfl row_ring rfl rfl hM.at0 H4.out HZR.out ?_; intro u hv hc; replace hM := hM.put0 hc hv; clear hv hc) | (refine v_load rfl rfl row_ring rfl hM.at1 HL3.out HA3.out ?_) | (refine v_load rfl rfl row_ring rfl hM.at0 HL4.out HA4.out ?_) | (refine v_build rfl rfl hbm (by simp [Act.eval, Act.put]) ?_) | (refine v_fill rfl rfl row_mach rfl rfl hM.at2 H5.out HZ.out ?_; intro u hv hc; replace hM := hM.put2 hc hv; clear hv hc)) | go_values | go_skip | go_guarded | go_step | go_upon | (simp only [Int.not_lt, Int.not_le] at *; go_simp))
  exact bodyPost_ret (slots.ret_2 Try.results22 rfl (ld_var row_mach hM.at2 H5.out.len) rfl) rfl ⟨v1, v2, rfl, by rw [HCC.out.1]; exact hM.mine (by simp), by rw [HCC.out.2]; exact hM.mine (by simp), hM.below⟩
end Go.Proofs.Ythjmcopknkemnaa.host
