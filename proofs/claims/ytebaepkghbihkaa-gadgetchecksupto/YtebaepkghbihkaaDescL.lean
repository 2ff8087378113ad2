/- desc: what appendEnd, appendFace and WriteConfig answer. -/
import Derived.Test.YtebaepkghbihkaaDescK
import Derived.Test.YtebaepkghbihkaaDescF
import Derived.Lib.AppendStr
import Derived.Laws.AppendOwnNone
import Derived.Lib.OwnKind
namespace Go.Proofs.Ytebaepkghbihkaa.desc
open Go.RowKit Go.PlainAid Go.Proofs.Ytebaepkghbihkaa.lane
set_option linter.unusedVariables false

/-- all blocks but rows of bytes are as they were -/
def Kb (w w' : World) : Prop := ∀ (X : Nat) (o : Obj), w.heap[X]? = some o → (∀ c fr, o ≠ Obj.cells c 5 fr) → w'.heap[X]? = some o
theorem Kb.refl (w : World) : Kb w w := fun _ _ h _ => h
theorem Kb.trans {a b c : World} (h : Kb a b) (k : Kb b c) : Kb a c := fun X o hX ho => k X o (h X o hX ho) ho
theorem Kb.below {w u : World} (h : Below w.heap.size w u) : Kb w u := fun X o hX _ => (h.block X (Array.getElem?_eq_some_iff.1 hX).1).trans hX
theorem Kb.alloc (w : World) (o : Obj) : Kb w (w.alloc o) := Kb.below (balloc w o)
theorem Kb.grown {w u : World} {B : Nat} {v : Value} {acc : List Int} (h : Bys w B v acc) (hg : w.grownBy u v.ownBlock) : Kb w u := by
  intro X o hX ho
  have hne : some X ≠ v.ownBlock := by
    intro q
    obtain ⟨c, fz, hk⟩ := Lib.ownsRow_kind h X q.symm
    rw [hX] at hk
    injection hk with hk
    exact ho c fz hk
  exact (hg.block X (Array.getElem?_eq_some_iff.1 hX).1 hne).trans hX
theorem Kb.box {w u : World} (h : Kb w u) {X : Nat} {cs : Array Value} {T : TypeId} {fr : Nat × Nat} (hX : w.heap[X]? = some (.cells cs T fr)) (hT : T ≠ 5) : u.heap[X]? = some (.cells cs T fr) :=
  h X _ hX (fun c f q => by injection q with q1 q2 q3; exact hT q2)
/-- the bytes of a text behind bytes -/
theorem wpList_bstr {ops : Array Oper} {rest : List Oper} {o : Oper} {a : Act} {Q : Exit → Act → World → Prop} (w : World) (hgd : o.guard = none) (s x : Operand)
    (ho : o.op = .call { callee := .builtin .append, args := #[s, x], argTypes := #[56, 9] }) (B : Nat) (v : Value) (acc : List Int) (hs : a.eval s = v) (h : Bys w B v acc)
    (t : ByteArray) (hx : a.eval x = .string t) (hl : acc.length ≤ 1000000) (hl2 : t.size ≤ 1000000) (hB : B ≤ w.heap.size)
    (hK : ∀ v' w', Bys w' B v' (acc ++ nums t) → Below B w w' → Kb w w' → wpList Try.prog ops Q rest (a.put o.dst v') w') : wpList Try.prog ops Q (o :: rest) a w := by
  obtain ⟨i0, hi, hz0, hz1, hz2⟩ := info_parts infoB
  refine Lib.wpList_append_own_string w hgd s x 56 9 ho B 5 i0 Try.underlying56 Try.underlying9 hi hz0 hz1 hz2 v acc.length (acc.map (Value.int .u8)) hs h t hx (by unfold maxLen; omega) (by omega) hB ?_
  intro v' w' h1 h2 _
  refine hK v' w' ?_ ((Below.refl _ _).grown h2 hB (own_block h)) (Kb.grown h h2)
  unfold Bys
  rw [List.length_append, List.map_append, nums_length]
  have e : (nums t).map (Value.int .u8) = Lib.strCells t := by
    unfold nums Lib.strCells; rw [List.map_map]; rfl
  rw [e]
  exact h1
/-- bytes of a row behind bytes of a row -/
theorem wpList_brow {ops : Array Oper} {rest : List Oper} {o : Oper} {a : Act} {Q : Exit → Act → World → Prop} (w : World) (hgd : o.guard = none) (s x : Operand)
    (ho : o.op = .call { callee := .builtin .append, args := #[s, x], argTypes := #[56, 56] }) (B B' : Nat) (v vx : Value) (acc ys : List Int) (hs : a.eval s = v) (h : Bys w B v acc)
    (hx : a.eval x = vx) (h' : Bys w B' vx ys) (hl : acc.length ≤ 1000000) (hl2 : ys.length ≤ 1000000) (hB : B ≤ w.heap.size)
    (hK : ∀ v' w', Bys w' B v' (acc ++ ys) → Below B w w' → wpList Try.prog ops Q rest (a.put o.dst v') w') : wpList Try.prog ops Q (o :: rest) a w := by
  obtain ⟨i0, hi, hz0, hz1, hz2⟩ := info_parts infoB
  have h2' := h'
  rcases h'.2 with ⟨rfl, h0⟩ | ⟨g, cap, cur, rfl, hBg, hg, hnc, hcm, hcs, htk⟩
  · have : ys = [] := List.eq_nil_of_length_eq_zero h0
    subst this
    have hrun := run_append_owned_none (P := Try.prog) (w := w) B 56 o.type 5 i0 1 Try.underlying56 hi v acc.length (acc.map (Value.int .u8)) h
    refine wpList_plain hgd fun K hK' => ?_
    unfold Oper.wp
    simp [execOp, ho, resolve, invoke, builtin, hs, hx, hrun, Result.andThen]
    exact hK' _ _ (hK v w (by rw [List.append_nil]; exact h) (Below.refl _ _))
  · refine wpList_bys w hgd s x ho B v acc hs h g ys.length cap ys hx rfl (fun j y hy => ?_) hl hl2 hB (fun v' w' q1 _ q2 => hK v' w' q1 q2)
    have := World.ownsRow.cells h2' rfl j (.int .u8 y) (by simp [hy])
    rw [Addr.add_lit, Nat.zero_add] at this
    exact this

set_option maxHeartbeats 1000000 in
theorem appendWord_kb (B : Nat) (v : Value) (acc : List Int) (n : Int) (h0 : 0 ≤ n) (h1 : n ≤ 65535) (w : World) (h : Bys w B v acc) (hB : B ≤ w.heap.size) (hl : acc.length ≤ 1000000) :
    Calls Try.prog 51 #[v, .int .i64 n] w fun e w' => ∃ v', e = .returned v' ∧ Bys w' B v' (acc ++ wrd n) ∧ Below B w w' ∧ Kb w w' := by
  have H : Hid (Bys w B v acc) := h
  clear h
  go_enter Try.func51, Try.ntmps51
  go_wp2_with (at_builtin; (refine wpList_bys _ rfl _ _ rfl B _ acc rfl (World.ownsRow.alloc H.out _) w.heap.size 2 2 [n % 256, n / 256] rfl rfl (bys_new w [n % 256, n / 256] _) hl (by omega) (by simp; omega) ?_))
  intro v' w2 h2 hg2 hb2
  have hkb : Kb w w2 := (Kb.alloc w _).trans (Kb.grown (World.ownsRow.alloc H.out _) hg2)
  go_wp2
  go_ret
  exact ⟨_, rfl, h2, ((Below.refl _ _).alloc hB _).trans hb2, hkb⟩
theorem box5 {u : World} {X : Nat} {a0 a1 a2 a3 a4 : Value} {T : TypeId} {fr : Nat × Nat} (h : u.heap[X]? = some (.cells #[a0, a1, a2, a3, a4] T fr)) :
    u.cell? ⟨X, 0, none⟩ = some a0 ∧ u.cell? ⟨X, 1, none⟩ = some a1 ∧ u.cell? ⟨X, 2, none⟩ = some a2 ∧ u.cell? ⟨X, 3, none⟩ = some a3 ∧ u.cell? ⟨X, 4, none⟩ = some a4 := by
  refine ⟨?_, ?_, ?_, ?_, ?_⟩ <;> (rw [cell_of_row u X _ _ T fr h]; rfl)
theorem box6 {u : World} {X : Nat} {a0 a1 a2 a3 a4 a5 : Value} {T : TypeId} {fr : Nat × Nat} (h : u.heap[X]? = some (.cells #[a0, a1, a2, a3, a4, a5] T fr)) :
    u.cell? ⟨X, 0, none⟩ = some a0 ∧ u.cell? ⟨X, 1, none⟩ = some a1 ∧ u.cell? ⟨X, 2, none⟩ = some a2 ∧ u.cell? ⟨X, 3, none⟩ = some a3 ∧ u.cell? ⟨X, 4, none⟩ = some a4 ∧ u.cell? ⟨X, 5, none⟩ = some a5 := by
  refine ⟨?_, ?_, ?_, ?_, ?_, ?_⟩ <;> (rw [cell_of_row u X _ _ T fr h]; rfl)
set_option maxHeartbeats 2000000 in
theorem appendEnd_any (B : Nat) (v : Value) (acc : List Int) (e : En) (w : World) (hok : endOk e = true) (h : Bys w B v acc) (hB : B ≤ w.heap.size) (hl : acc.length ≤ 900000) :
    Calls Try.prog 78 #[v, evV e] w fun r w' => ∃ v', r = .returned v' ∧ Bys w' B v' (acc ++ endL e) ∧ Below B w w' ∧ Kb w w' := by
  obtain ⟨⟨a1, a2⟩, ⟨k1, k2⟩, ⟨m1, m2⟩, i1, i2⟩ := (endOk_iff e).1 hok
  obtain ⟨ad, inw, kd, mx, iv⟩ := e
  simp only at *
  obtain ⟨w0, hw0⟩ : ∃ w0, w.alloc (.cells #[.int .i64 ad, .bool inw, .int .i64 kd, .int .i64 mx, .int .i64 iv] 86) = w0 := ⟨_, rfl⟩
  have hb0 : Below w.heap.size w w0 := by rw [← hw0]; exact balloc _ _
  have hx0 : w0.heap[w.heap.size]? = some (.cells #[.int .i64 ad, .bool inw, .int .i64 kd, .int .i64 mx, .int .i64 iv] 86) := by rw [← hw0]; exact (MapKept.heap_alloc w _).1
  obtain ⟨c0, c1, c2, c3, c4⟩ := box5 hx0
  have HX0 : Hid (Bys w0 B v acc) := Bys.below h hb0
  have HH0 : Hid (w0.heap[w.heap.size]? = some (.cells #[.int .i64 ad, .bool inw, .int .i64 kd, .int .i64 mx, .int .i64 iv] 86)) := hx0
  have HB0 : Hid (Below B w w0) := hb0.mono hB
  have HK0 : Hid (Kb w w0) := Kb.below hb0
  have hz0 : B ≤ w0.heap.size := Nat.le_trans hB hb0.size
  obtain ⟨A, hA⟩ : ∃ A : Int, ad + (if inw = true then 128 else 0) = A := ⟨_, rfl⟩
  have hA1 : 0 ≤ A := by rw [← hA]; cases inw <;> simp <;> omega
  have hA2 : A ≤ 255 := by rw [← hA]; cases inw <;> simp <;> omega
  have hEL : acc ++ [7, 5, A, kd] ++ wrd mx ++ [iv] = acc ++ endL ⟨ad, inw, kd, mx, iv⟩ := by rw [← hA]; simp [endL]
  have HEL : Hid (acc ++ [7, 5, A, kd] ++ wrd mx ++ [iv] = acc ++ endL ⟨ad, inw, kd, mx, iv⟩) := hEL
  clear h hb0 hx0 hEL hok
  have key : inw = true ∧ ad + 128 = A ∨ inw = false ∧ ad = A := by
    cases inw
    · right; exact ⟨rfl, by simpa using hA⟩
    · left; exact ⟨rfl, hA⟩
  clear hA
  rcases key with ⟨rfl, rfl⟩ | ⟨rfl, rfl⟩
  all_goals
    go_enter Try.func78, Try.ntmps78
    go_wp2_with (at_builtin; (refine wpList_bys _ rfl _ _ rfl B _ acc rfl (World.ownsRow.alloc HX0.out _) w0.heap.size 4 4 [7, 5, _, kd] rfl rfl (bys_new w0 [7, 5, _, kd] _) (by omega) (by omega) (by simp; omega) ?_))
    intro v1 wa h1 hg1 hb1
    have HX1 : Hid (Bys wa B v1 (acc ++ [7, 5, _, kd])) := h1
    have HB1 : Hid (Below B w wa) := (HB0.out.alloc hz0 _).trans hb1
    have hkb : Kb w0 wa := (Kb.alloc w0 _).trans (Kb.grown (World.ownsRow.alloc HX0.out _) hg1)
    have HK1 : Hid (Kb w wa) := HK0.out.trans hkb
    have hx1 := hkb.box HH0.out (by decide)
    have HH1 : Hid (wa.heap[w.heap.size]? = some (.cells #[.int .i64 ad, .bool _, .int .i64 kd, .int .i64 mx, .int .i64 iv] 86)) := hx1
    clear c0 c1 c2 c3 c4
    obtain ⟨c0, c1, c2, c3, c4⟩ := box5 hx1
    have hz1 : B ≤ wa.heap.size := by have := HB1.out.size; omega
    clear h1 hg1 hb1 hkb hx1 HX0
    go_wp2_with fail
    refine (appendWord_kb B _ _ mx (by omega) (by omega) _ HX1.out hz1 (by rw [List.length_append]; simp; omega)).mono ?_
    rintro r wb ⟨v2, rfl, h1, hb1, hkb⟩
    have HX2 : Hid (Bys wb B v2 (acc ++ [7, 5, _, kd] ++ wrd mx)) := h1
    have HB2 : Hid (Below B w wb) := HB1.out.trans hb1
    have HK2 : Hid (Kb w wb) := HK1.out.trans hkb
    clear c0 c1 c2 c3 c4
    obtain ⟨c0, c1, c2, c3, c4⟩ := box5 (hkb.box HH1.out (by decide))
    have hz2 : B ≤ wb.heap.size := by have := HB2.out.size; omega
    clear h1 hb1 hkb HX1
    go_wp2_with (at_builtin; (refine wpList_bys _ rfl _ _ rfl B _ (acc ++ [7, 5, _, kd] ++ wrd mx) rfl (World.ownsRow.alloc HX2.out _) wb.heap.size 1 1 [iv] rfl rfl (bys_new wb [iv] _) (by rw [List.length_append, List.length_append]; simp [wrd]; omega) (by omega) (by simp; omega) ?_))
    intro v3 wc h1 hg1 hb1
    have e := HEL.out
    simp only [List.append_assoc, List.cons_append, List.nil_append] at e h1
    rw [e] at h1
    have HX3 : Hid (Bys wc B v3 (acc ++ endL _)) := h1
    clear e
    have HB3 : Hid (Below B w wc) := (HB2.out.alloc hz2 _).trans hb1
    have HK3 : Hid (Kb w wc) := HK2.out.trans ((Kb.alloc wb _).trans (Kb.grown (World.ownsRow.alloc HX2.out _) hg1))
    clear h1 hg1 hb1
    go_wp2
    go_ret
    exact ⟨_, rfl, HX3.out, HB3.out, HK3.out⟩
end Go.Proofs.Ytebaepkghbihkaa.desc
