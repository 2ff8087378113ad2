/- desc: what appendEnd, appendFace and WriteConfig answer. -/
import Derived.Test.YtonheibhbilhhaaZAe
import Derived.Test.YtonheibhbilhhaaZAd
import Derived.Lib.AppendStr
import Derived.Laws.AppendOwnNone
import Derived.Lib.OwnKind
import Derived.OpenShut
import Derived.ChangeArms
import Derived.ChangeSame
import Derived.SliceStrings
import Derived.Carry
import Derived.Deep.Slices
import Derived.Deep.Strs
namespace Go.Proofs.Ytonheibhbilhhaa.desc
open Go.RowKit Go.PlainAid Go.Proofs.Ytonheibhbilhhaa.lane
set_option linter.unusedVariables false

/-- all blocks but rows of bytes are as they were -/
def Kb (w w' : World) : Prop := ∀ (X : Nat) (o : Obj), w.heap[X]? = some o → (∀ c fr, o ≠ Obj.cells c 5 fr) → w'.heap[X]? = some o
theorem Kb.refl (w : World) : Kb w w := fun _ _ h _ => h
theorem Kb.trans {a b c : World} (h : Kb a b) (k : Kb b c) : Kb a c := fun X o hX ho => k X o (h X o hX ho) ho
theorem Kb.below {w u : World} (h : Below w.heap.size w u) : Kb w u := fun X o hX _ => (h.block X (Array.getElem?_eq_some_iff.1 hX).1).trans hX
theorem Kb.alloc (w : World) (o : Obj) : Kb w (w.alloc o) := Kb.below (balloc w o)
theorem Kb.grown {w u : World} {B : Nat} {v : Value} {acc : List Int} (h : Bys w B v acc) (hg : w.grownBy u v.ownBlock) : Kb w u := by
  intro X o hX ho
  have hne : some X ≠ v.ownBlock := by
    intro q
    obtain ⟨c, fz, hk⟩ := Lib.ownsRow_kind h X q.symm
    rw [hX] at hk
    injection hk with hk
    exact ho c fz hk
  exact (hg.block X (Array.getElem?_eq_some_iff.1 hX).1 hne).trans hX
theorem Kb.box {w u : World} (h : Kb w u) {X : Nat} {cs : Array Value} {T : TypeId} {fr : Nat × Nat} (hX : w.heap[X]? = some (.cells cs T fr)) (hT : T ≠ 5) : u.heap[X]? = some (.cells cs T fr) :=
  h X _ hX (fun c f q => by injection q with q1 q2 q3; exact hT q2)
/-- the bytes of a text behind bytes -/
theorem wpList_bstr {ops : Array Oper} {rest : List Oper} {o : Oper} {a : Act} {Q : Exit → Act → World → Prop} (w : World) (hgd : o.guard = none) (s x : Operand)
    (ho : o.op = .call { callee := .builtin .append, args := #[s, x], argTypes := #[71, 9] }) (B : Nat) (v : Value) (acc : List Int) (hs : a.eval s = v) (h : Bys w B v acc)
    (t : ByteArray) (hx : a.eval x = .string t) (hl : acc.length ≤ 1000000) (hl2 : t.size ≤ 1000000) (hB : B ≤ w.heap.size)
    (hK : ∀ v' w', Bys w' B v' (acc ++ nums t) → Below B w w' → Kb w w' → wpList Try.prog ops Q rest (a.put o.dst v') w') : wpList Try.prog ops Q (o :: rest) a w := by
  obtain ⟨i0, hi, hz0, hz1, hz2⟩ := info_parts infoB
  refine Lib.wpList_append_own_string w hgd s x 71 9 ho B 5 i0 Try.underlying71 Try.underlying9 hi hz0 hz1 hz2 v acc.length (acc.map (Value.int .u8)) hs h t hx (by unfold maxLen; omega) (by omega) hB ?_
  intro v' w' h1 h2 _
  refine hK v' w' ?_ ((Below.refl _ _).grown h2 hB (own_block h)) (Kb.grown h h2)
  unfold Bys
  rw [List.length_append, List.map_append, nums_length]
  have e : (nums t).map (Value.int .u8) = Lib.strCells t := by
    unfold nums Lib.strCells; rw [List.map_map]; rfl
  rw [e]
  exact h1
/-- bytes of a row behind bytes of a row -/
theorem wpList_brow {ops : Array Oper} {rest : List Oper} {o : Oper} {a : Act} {Q : Exit → Act → World → Prop} (w : World) (hgd : o.guard = none) (s x : Operand)
    (ho : o.op = .call { callee := .builtin .append, args := #[s, x], argTypes := #[71, 71] }) (B B' : Nat) (v vx : Value) (acc ys : List Int) (hs : a.eval s = v) (h : Bys w B v acc)
    (hx : a.eval x = vx) (h' : Bys w B' vx ys) (hl : acc.length ≤ 1000000) (hl2 : ys.length ≤ 1000000) (hB : B ≤ w.heap.size)
    (hK : ∀ v' w', Bys w' B v' (acc ++ ys) → Below B w w' → wpList Try.prog ops Q rest (a.put o.dst v') w') : wpList Try.prog ops Q (o :: rest) a w := by
  obtain ⟨i0, hi, hz0, hz1, hz2⟩ := info_parts infoB
  have h2' := h'
  rcases h'.2 with ⟨rfl, h0⟩ | ⟨g, cap, cur, rfl, hBg, hg, hnc, hcm, hcs, htk⟩
  · have : ys = [] := List.eq_nil_of_length_eq_zero h0
    subst this
    have hrun := run_append_owned_none (P := Try.prog) (w := w) B 71 o.type 5 i0 1 Try.underlying71 hi v acc.length (acc.map (Value.int .u8)) h
    refine wpList_plain hgd fun K hK' => ?_
    unfold Oper.wp
    simp [execOp, ho, resolve, invoke, builtin, hs, hx, hrun, Result.andThen]
    exact hK' _ _ (hK v w (by rw [List.append_nil]; exact h) (Below.refl _ _))
  · refine wpList_bys w hgd s x ho B v acc hs h g ys.length cap ys hx rfl (fun j y hy => ?_) hl hl2 hB (fun v' w' q1 _ q2 => hK v' w' q1 q2)
    have := World.ownsRow.cells h2' rfl j (.int .u8 y) (by simp [hy])
    rw [Addr.add_lit, Nat.zero_add] at this
    exact this

set_option maxHeartbeats 1000000 in
theorem appendWord_kb (B : Nat) (v : Value) (acc : List Int) (n : Int) (h0 : 0 ≤ n) (h1 : n ≤ 65535) (w : World) (h : Bys w B v acc) (hB : B ≤ w.heap.size) (hl : acc.length ≤ 1000000) :
    Calls Try.prog 34 #[v, .int .i64 n] w fun e w' => ∃ v', e = .returned v' ∧ Bys w' B v' (acc ++ wrd n) ∧ Below B w w' ∧ Kb w w' := by
  have H : Hid (Bys w B v acc) := h
  clear h
  go_enter Try.func34, Try.ntmps34
  go_wp2_with (at_builtin; (refine wpList_bys _ rfl _ _ rfl B _ acc rfl (World.ownsRow.alloc H.out _) w.heap.size 2 2 [n % 256, n / 256] rfl rfl (bys_new w [n % 256, n / 256] _) hl (by omega) (by simp; omega) ?_))
  intro v' w2 h2 hg2 hb2
  have hkb : Kb w w2 := (Kb.alloc w _).trans (Kb.grown (World.ownsRow.alloc H.out _) hg2)
  go_wp2
  go_ret
  exact ⟨_, rfl, h2, ((Below.refl _ _).alloc hB _).trans hb2, hkb⟩
theorem box5 {u : World} {X : Nat} {a0 a1 a2 a3 a4 : Value} {T : TypeId} {fr : Nat × Nat} (h : u.heap[X]? = some (.cells #[a0, a1, a2, a3, a4] T fr)) :
    u.cell? ⟨X, 0, none⟩ = some a0 ∧ u.cell? ⟨X, 1, none⟩ = some a1 ∧ u.cell? ⟨X, 2, none⟩ = some a2 ∧ u.cell? ⟨X, 3, none⟩ = some a3 ∧ u.cell? ⟨X, 4, none⟩ = some a4 := by
  refine ⟨?_, ?_, ?_, ?_, ?_⟩ <;> (rw [cell_of_row u X _ _ T fr h]; rfl)
theorem box6 {u : World} {X : Nat} {a0 a1 a2 a3 a4 a5 : Value} {T : TypeId} {fr : Nat × Nat} (h : u.heap[X]? = some (.cells #[a0, a1, a2, a3, a4, a5] T fr)) :
    u.cell? ⟨X, 0, none⟩ = some a0 ∧ u.cell? ⟨X, 1, none⟩ = some a1 ∧ u.cell? ⟨X, 2, none⟩ = some a2 ∧ u.cell? ⟨X, 3, none⟩ = some a3 ∧ u.cell? ⟨X, 4, none⟩ = some a4 ∧ u.cell? ⟨X, 5, none⟩ = some a5 := by
  refine ⟨?_, ?_, ?_, ?_, ?_, ?_⟩ <;> (rw [cell_of_row u X _ _ T fr h]; rfl)
set_option maxHeartbeats 2000000 in
theorem appendEnd_any (B : Nat) (v : Value) (acc : List Int) (e : En) (w : World) (hok : endOk e = true) (h : Bys w B v acc) (hB : B ≤ w.heap.size) (hl : acc.length ≤ 900000) :
    Calls Try.prog 65 #[v, evV e] w fun r w' => ∃ v', r = .returned v' ∧ Bys w' B v' (acc ++ endL e) ∧ Below B w w' ∧ Kb w w' := by
  obtain ⟨⟨a1, a2⟩, ⟨k1, k2⟩, ⟨m1, m2⟩, i1, i2⟩ := (endOk_iff e).1 hok
  obtain ⟨ad, inw, kd, mx, iv⟩ := e
  simp only at *
  obtain ⟨w0, hw0⟩ : ∃ w0, w.alloc (.cells #[.int .i64 ad, .bool inw, .int .i64 kd, .int .i64 mx, .int .i64 iv] 85) = w0 := ⟨_, rfl⟩
  have hb0 : Below w.heap.size w w0 := by rw [← hw0]; exact balloc _ _
  have hx0 : w0.heap[w.heap.size]? = some (.cells #[.int .i64 ad, .bool inw, .int .i64 kd, .int .i64 mx, .int .i64 iv] 85) := by rw [← hw0]; exact (MapKept.heap_alloc w _).1
  obtain ⟨c0, c1, c2, c3, c4⟩ := box5 hx0
  have HX0 : Hid (Bys w0 B v acc) := Bys.below h hb0
  have HH0 : Hid (w0.heap[w.heap.size]? = some (.cells #[.int .i64 ad, .bool inw, .int .i64 kd, .int .i64 mx, .int .i64 iv] 85)) := hx0
  have HB0 : Hid (Below B w w0) := hb0.mono hB
  have HK0 : Hid (Kb w w0) := Kb.below hb0
  have hz0 : B ≤ w0.heap.size := Nat.le_trans hB hb0.size
  obtain ⟨A, hA⟩ : ∃ A : Int, ad + (if inw = true then 128 else 0) = A := ⟨_, rfl⟩
  have hA1 : 0 ≤ A := by rw [← hA]; cases inw <;> simp <;> omega
  have hA2 : A ≤ 255 := by rw [← hA]; cases inw <;> simp <;> omega
  have hEL : acc ++ [7, 5, A, kd] ++ wrd mx ++ [iv] = acc ++ endL ⟨ad, inw, kd, mx, iv⟩ := by rw [← hA]; simp [endL]
  have HEL : Hid (acc ++ [7, 5, A, kd] ++ wrd mx ++ [iv] = acc ++ endL ⟨ad, inw, kd, mx, iv⟩) := hEL
  clear h hb0 hx0 hEL hok
  have key : inw = true ∧ ad + 128 = A ∨ inw = false ∧ ad = A := by
    cases inw
    · right; exact ⟨rfl, by simpa using hA⟩
    · left; exact ⟨rfl, hA⟩
  clear hA
  rcases key with ⟨rfl, rfl⟩ | ⟨rfl, rfl⟩
  all_goals
    go_enter Try.func65, Try.ntmps65
    go_wp2_with (at_builtin; (refine wpList_bys _ rfl _ _ rfl B _ acc rfl (World.ownsRow.alloc HX0.out _) w0.heap.size 4 4 [7, 5, _, kd] rfl rfl (bys_new w0 [7, 5, _, kd] _) (by omega) (by omega) (by simp; omega) ?_))
    intro v1 wa h1 hg1 hb1
    have HX1 : Hid (Bys wa B v1 (acc ++ [7, 5, _, kd])) := h1
    have HB1 : Hid (Below B w wa) := (HB0.out.alloc hz0 _).trans hb1
    have hkb : Kb w0 wa := (Kb.alloc w0 _).trans (Kb.grown (World.ownsRow.alloc HX0.out _) hg1)
    have HK1 : Hid (Kb w wa) := HK0.out.trans hkb
    have hx1 := hkb.box HH0.out (by decide)
    have HH1 : Hid (wa.heap[w.heap.size]? = some (.cells #[.int .i64 ad, .bool _, .int .i64 kd, .int .i64 mx, .int .i64 iv] 85)) := hx1
    clear c0 c1 c2 c3 c4
    obtain ⟨c0, c1, c2, c3, c4⟩ := box5 hx1
    have hz1 : B ≤ wa.heap.size := by have := HB1.out.size; omega
    clear h1 hg1 hb1 hkb hx1 HX0
    go_wp2_with fail
    refine (appendWord_kb B _ _ mx (by omega) (by omega) _ HX1.out hz1 (by rw [List.length_append]; simp; omega)).mono ?_
    rintro r wb ⟨v2, rfl, h1, hb1, hkb⟩
    have HX2 : Hid (Bys wb B v2 (acc ++ [7, 5, _, kd] ++ wrd mx)) := h1
    have HB2 : Hid (Below B w wb) := HB1.out.trans hb1
    have HK2 : Hid (Kb w wb) := HK1.out.trans hkb
    clear c0 c1 c2 c3 c4
    obtain ⟨c0, c1, c2, c3, c4⟩ := box5 (hkb.box HH1.out (by decide))
    have hz2 : B ≤ wb.heap.size := by have := HB2.out.size; omega
    clear h1 hb1 hkb HX1
    go_wp2_with (at_builtin; (refine wpList_bys _ rfl _ _ rfl B _ (acc ++ [7, 5, _, kd] ++ wrd mx) rfl (World.ownsRow.alloc HX2.out _) wb.heap.size 1 1 [iv] rfl rfl (bys_new wb [iv] _) (by rw [List.length_append, List.length_append]; simp [wrd]; omega) (by omega) (by simp; omega) ?_))
    intro v3 wc h1 hg1 hb1
    have e := HEL.out
    simp only [List.append_assoc, List.cons_append, List.nil_append] at e h1
    rw [e] at h1
    have HX3 : Hid (Bys wc B v3 (acc ++ endL _)) := h1
    clear e
    have HB3 : Hid (Below B w wc) := (HB2.out.alloc hz2 _).trans hb1
    have HK3 : Hid (Kb w wc) := HK2.out.trans ((Kb.alloc wb _).trans (Kb.grown (World.ownsRow.alloc HX2.out _) hg1))
    clear h1 hg1 hb1
    go_wp2
    go_ret
    exact ⟨_, rfl, HX3.out, HB3.out, HK3.out⟩
end Go.Proofs.Ytonheibhbilhhaa.desc

/- desc: what appendFace answers. -/
namespace Go.Proofs.Ytonheibhbilhhaa.desc
open Go.RowKit Go.PlainAid Go.Proofs.Ytonheibhbilhhaa.lane
set_option linter.unusedVariables false

theorem drop_flat (ex : List (List Int)) (k : Nat) (x : List Int) (h : ex[k]? = some x) : (ex.drop k).flatten = x ++ (ex.drop (k + 1)).flatten := by
  obtain ⟨hk, he⟩ := List.getElem?_eq_some_iff.1 h
  rw [List.drop_eq_getElem_cons hk, he, List.flatten_cons]
theorem drop_ends (en : List En) (k : Nat) (e : En) (h : en[k]? = some e) : (en.drop k).flatMap endL = endL e ++ (en.drop (k + 1)).flatMap endL := by
  obtain ⟨hk, he⟩ := List.getElem?_eq_some_iff.1 h
  rw [List.drop_eq_getElem_cons hk, he, List.flatMap_cons]
set_option maxRecDepth 100000 in
set_option maxHeartbeats 4000000 in
theorem appendFace_any (B : Nat) (v : Value) (acc : List Int) (n : Nat) (q : Fc × Value × Value) (w : World) (hn : n ≤ 255) (hok : FOk q.1) (h : Bys w B v acc) (hB : B ≤ w.heap.size) (hl : acc.length ≤ 100000) (hR : ∀ u, Below B w u → Rf u q) :
    Calls Try.prog 36 #[v, .int .i64 (n : Int), fcV q.1 q.2.1 q.2.2] w fun r w' => ∃ v', r = .returned v' ∧ Bys w' B v' (acc ++ faceL n q.1) ∧ Below B w w' := by
  obtain ⟨⟨cl, su, pr, nm, ex, en⟩, ve, vd⟩ := q
  obtain ⟨⟨⟨h1, h1'⟩, ⟨h2, h2'⟩, ⟨h3, h3'⟩, h4, h4'⟩, hxl, hxo, hnl, hno⟩ := hok
  simp only at *
  have hX0 : Rts w ve ex := (hR w (Below.refl _ _)).ex
  have hN0 : Rns w vd en := (hR w (Below.refl _ _)).en
  obtain ⟨ax, cx, rfl, hlx, hcx, _⟩ := hX0.cell
  obtain ⟨an, cn, rfl, hln, hcn, _⟩ := hN0.cell
  have HCX : Hid (∀ u, Below B w u → ∀ j p, ex[j]? = some p → ∃ g off, ax = some ⟨g, off, none⟩ ∧ u.cell? ⟨g, off + j, none⟩ = some (.string (strOfNums p))) := by
    intro u hu
    have hq : Rts u (.slice ax ex.length cx) ex := (hR u hu).ex
    obtain ⟨a', c', he, _, _, hc⟩ := hq.cell
    injection he with e1 e2 e3
    subst e1
    exact hc
  have HCN : Hid (∀ u, Below B w u → ∀ j e, en[j]? = some e → ∃ g off, an = some ⟨g, off, none⟩ ∧ u.cell? ⟨g, off + j * 5, none⟩ = some (.int .i64 e.ad) ∧ u.cell? ⟨g, off + j * 5 + 1, none⟩ = some (.bool e.inw) ∧ u.cell? ⟨g, off + j * 5 + 2, none⟩ = some (.int .i64 e.kd) ∧ u.cell? ⟨g, off + j * 5 + 3, none⟩ = some (.int .i64 e.mx) ∧ u.cell? ⟨g, off + j * 5 + 4, none⟩ = some (.int .i64 e.iv)) := by
    intro u hu
    have hq : Rns u (.slice an en.length cn) en := (hR u hu).en
    obtain ⟨a', c', he, _, _, hc⟩ := hq.cell
    injection he with e1 e2 e3
    subst e1
    exact hc
  have HBX : Hid (∀ x ∈ ex, Byt x ∧ x.length ≤ 32) := fun x hx => ⟨(hR w (Below.refl _ _)).bb x hx, ((exOk_iff x).1 (hxo x hx)).1.2⟩
  have HNO : Hid (∀ e ∈ en, endOk e = true) := hno
  obtain ⟨nx, hnx⟩ : ∃ n, ex.length = n := ⟨_, rfl⟩
  obtain ⟨nd, hnd⟩ : ∃ n, en.length = n := ⟨_, rfl⟩
  have HNX : Hid (ex.length = nx) := hnx
  have HND : Hid (en.length = nd) := hnd
  have HFL : Hid (acc ++ faceL n ⟨cl, su, pr, nm, ex, en⟩ = acc ++ [9, 4, (n : Int), 0, (nd : Int)] ++ [cl, su, pr, nm] ++ (ex.flatten ++ en.flatMap endL)) := by
    show _ = _
    rw [← hnd]; simp [faceL, faceH]
  rw [hnx] at hlx hxl ⊢
  rw [hnd] at hln hnl ⊢
  obtain ⟨w0, hw0⟩ : ∃ w0, w.alloc (.cells #[.int .i64 cl, .int .i64 su, .int .i64 pr, .int .i64 nm, .slice ax nx cx, .slice an nd cn] 76) = w0 := ⟨_, rfl⟩
  have hb0 : Below w.heap.size w w0 := by rw [← hw0]; exact balloc _ _
  have hx0 : w0.heap[w.heap.size]? = some (.cells #[.int .i64 cl, .int .i64 su, .int .i64 pr, .int .i64 nm, .slice ax nx cx, .slice an nd cn] 76) := by rw [← hw0]; exact (MapKept.heap_alloc w _).1
  obtain ⟨c0, c1, c2, c3, c4, c5⟩ := box6 hx0
  have HX0 : Hid (Bys w0 B v acc) := Bys.below h hb0
  have HH0 : Hid (w0.heap[w.heap.size]? = some (.cells #[.int .i64 cl, .int .i64 su, .int .i64 pr, .int .i64 nm, .slice ax nx cx, .slice an nd cn] 76)) := hx0
  have HB0 : Hid (Below B w w0) := hb0.mono hB
  have hz0 : B ≤ w0.heap.size := Nat.le_trans hB hb0.size
  unfold maxLen at hcx hcn
  clear h hb0 hx0 hR hnx hnd hxo hno hX0 hN0
  go_enter Try.func36, Try.ntmps36
  go_wp2_with (at_builtin; (refine wpList_bys _ rfl _ _ rfl B _ acc rfl (World.ownsRow.alloc HX0.out _) w0.heap.size 5 5 [9, 4, (n : Int), 0, (nd : Int)] rfl rfl (bys_new w0 [9, 4, (n : Int), 0, (nd : Int)] _) (by omega) (by omega) (by simp; omega) ?_))
  intro v1 wa q1 hg1 hb1
  have HX1 : Hid (Bys wa B v1 (acc ++ [9, 4, (n : Int), 0, (nd : Int)])) := q1
  have HB1 : Hid (Below B w wa) := (HB0.out.alloc hz0 _).trans hb1
  have hkb : Kb w0 wa := (Kb.alloc w0 _).trans (Kb.grown (World.ownsRow.alloc HX0.out _) hg1)
  have HK1 : Hid (Kb w0 wa) := hkb
  clear c0 c1 c2 c3 c4 c5
  obtain ⟨c0, c1, c2, c3, c4, c5⟩ := box6 (hkb.box HH0.out (by decide))
  have hz1 : B ≤ wa.heap.size := by have := HB1.out.size; omega
  clear q1 hg1 hb1 hkb HX0
  go_wp2_with (at_builtin; (refine wpList_bys _ rfl _ _ rfl B _ (acc ++ [9, 4, (n : Int), 0, (nd : Int)]) rfl (World.ownsRow.alloc HX1.out _) wa.heap.size 4 4 [cl, su, pr, nm] rfl rfl (bys_new wa [cl, su, pr, nm] _) (by rw [List.length_append]; simp; omega) (by omega) (by simp; omega) ?_))
  intro v2 wb q1 hg1 hb1
  have e := HFL.out
  obtain ⟨Hd, hHd⟩ : ∃ Hd, acc ++ [9, 4, (n : Int), 0, (nd : Int)] ++ [cl, su, pr, nm] = Hd := ⟨_, rfl⟩
  have q2 : Bys wb B v2 Hd := by rw [← hHd]; simpa using q1
  rw [hHd] at e
  have hHl : Hd.length = acc.length + 9 := by rw [← hHd, List.length_append, List.length_append]; rfl
  have HF2 : Hid (acc ++ faceL n ⟨cl, su, pr, nm, ex, en⟩ = Hd ++ (ex.flatten ++ en.flatMap endL)) := e
  have HX2 : Hid (Bys wb B v2 Hd) := q2
  have HB2 : Hid (Below B w wb) := (HB1.out.alloc hz1 _).trans hb1
  have hkb : Kb w0 wb := HK1.out.trans ((Kb.alloc wa _).trans (Kb.grown (World.ownsRow.alloc HX1.out _) hg1))
  have HK2 : Hid (Kb w0 wb) := hkb
  clear c0 c1 c2 c3 c4 c5
  obtain ⟨c0, c1, c2, c3, c4, c5⟩ := box6 (hkb.box HH0.out (by decide))
  clear q1 q2 hg1 hb1 hkb HX1 HB1 HK1 HFL e hHd
  go_wp2
  go_loopw [0, 38] (fun tv i wr => ∃ (k : Nat) (A : List Int), k ≤ nx ∧ i = .int .i64 (k : Int) ∧ A.length ≤ acc.length + 9 + 32 * k ∧ Bys wr B tv A ∧ Below B w wr ∧ Kb w0 wr ∧ Hid (A ++ (ex.drop k).flatten = Hd ++ ex.flatten)) (fun _ i _ => nx - (intOf i).toNat)
  case atStart => exact ⟨0, Hd, Nat.zero_le _, rfl, by omega, HX2.out, HB2.out, HK2.out, rfl⟩
  case round =>
    obtain ⟨k, A, hk, rfl, hAl, hX, hbr, hkr, HR⟩ := hrel
    have HXr : Hid (Bys wr B u0 A) := hX
    have HBr : Hid (Below B w wr) := hbr
    have HKr : Hid (Kb w0 wr) := hkr
    have hzr : B ≤ wr.heap.size := by have := hbr.size; omega
    by_cases hlt : k < nx
    · have hk1 : k < ex.length := by have := HNX.out; omega
      obtain ⟨x, hx⟩ : ∃ x, ex[k]? = some x := ⟨ex[k], List.getElem?_eq_getElem hk1⟩
      obtain ⟨g, off, rfl, d1⟩ := HCX.out wr hbr k x hx
      obtain ⟨hxb, hxm⟩ := HBX.out x (List.mem_of_getElem? hx)
      have hR := HR.out
      rw [drop_flat ex k x hx, ← List.append_assoc] at hR
      have HH : Hid (A ++ x ++ (ex.drop (k + 1)).flatten = Hd ++ ex.flatten) := hR
      have hns := nums_str x hxb
      have hsz := str_size x
      obtain ⟨t, ht⟩ : ∃ t, strOfNums x = t := ⟨_, rfl⟩
      rw [ht] at d1 hns hsz
      have HNS : Hid (nums t = x) := hns
      clear HCX HCN HBX HNO HR hR hx hX hbr hkr ht hns hxb
      go_wp2_with (at_builtin; (refine wpList_bstr _ rfl _ _ rfl B _ A rfl HXr.out t rfl (by omega) (by omega) hzr ?_))
      intro v3 wc q1 hb1 hkb
      have HX3 : Hid (Bys wc B v3 (A ++ x)) := by show Bys _ _ _ _; rw [← HNS.out]; exact q1
      have HB3 : Hid (Below B w wc) := HBr.out.trans hb1
      have HK3 : Hid (Kb w0 wc) := HKr.out.trans hkb
      clear q1 hb1 hkb HXr HBr HKr
      go_wp2
      go_roundw
      case rel => exact ⟨k + 1, A ++ x, by omega, by go_num, by rw [List.length_append]; omega, HX3.out, HB3.out, HK3.out, HH⟩
      case measure => simp [intOf]; omega
    · have hR := HR.out
      rw [List.drop_eq_nil_of_le (by have := HNX.out; omega), List.flatten_nil, List.append_nil] at hR
      have hF := HF2.out
      rw [← List.append_assoc, ← hR] at hF
      have HF3 : Hid (acc ++ faceL n ⟨cl, su, pr, nm, ex, en⟩ = A ++ en.flatMap endL) := hF
      clear c0 c1 c2 c3 c4 c5
      obtain ⟨c0, c1, c2, c3, c4, c5⟩ := box6 (hkr.box HH0.out (by decide))
      clear HR hR hF HF2 hX hbr hkr HCX HBX HX2 HB2 HK2
      rename World => wo
      go_wp2
      go_loopw [0, 49] (fun tv i wr => ∃ (k : Nat) (C : List Int), k ≤ nd ∧ i = .int .i64 (k : Int) ∧ C.length ≤ acc.length + 9 + 32 * nx + 7 * k ∧ Bys wr B tv C ∧ Below B w wr ∧ Hid (C ++ (en.drop k).flatMap endL = A ++ en.flatMap endL)) (fun _ i _ => nd - (intOf i).toNat)
      case atStart => exact ⟨0, A, Nat.zero_le _, rfl, by omega, HXr.out, HBr.out, rfl⟩
      case round =>
        obtain ⟨j, C, hj, rfl, hCl, hX, hbr, HR⟩ := hrel
        have hzq : B ≤ wr.heap.size := by have := hbr.size; omega
        by_cases hlt : j < nd
        · have hj1 : j < en.length := by have := HND.out; omega
          obtain ⟨e, he⟩ : ∃ e, en[j]? = some e := ⟨en[j], List.getElem?_eq_getElem hj1⟩
          obtain ⟨g, off, rfl, d0, d1, d2, d3, d4⟩ := HCN.out wr hbr j e he
          have heo := HNO.out e (List.mem_of_getElem? he)
          have hR := HR.out
          rw [drop_ends en j e he, ← List.append_assoc] at hR
          have HH : Hid (C ++ endL e ++ (en.drop (j + 1)).flatMap endL = A ++ en.flatMap endL) := hR
          obtain ⟨w2, hw2⟩ : ∃ w2, wr.alloc (.cells #[.int .i64 e.ad, .bool e.inw, .int .i64 e.kd, .int .i64 e.mx, .int .i64 e.iv] 85) = w2 := ⟨_, rfl⟩
          have hb2 : Below wr.heap.size wr w2 := by rw [← hw2]; exact balloc _ _
          obtain ⟨e0, e1, e2, e3, e4⟩ := box5 (show w2.heap[wr.heap.size]? = some (.cells #[.int .i64 e.ad, .bool e.inw, .int .i64 e.kd, .int .i64 e.mx, .int .i64 e.iv] 85) by rw [← hw2]; exact (MapKept.heap_alloc wr _).1)
          have HAE : Hid (Calls Try.prog 65 #[u0, evV e] w2 fun r w' => ∃ v', r = .returned v' ∧ Bys w' B v' (C ++ endL e) ∧ Below B w2 w' ∧ Kb w2 w') :=
            appendEnd_any B u0 C e w2 heo (Bys.below hX hb2) (Nat.le_trans hzq hb2.size) (by omega)
          have HB2 : Hid (Below B w w2) := hbr.trans (hb2.mono hzq)
          have hel := endL_length e
          obtain ⟨EL, hEL⟩ : ∃ EL, endL e = EL := ⟨_, rfl⟩
          rw [hEL] at HAE HH hel
          obtain ⟨ad, inw, kd, mx, iv⟩ := e
          simp only at *
          clear HCN HNO HR hR he hX hbr hb2 heo hEL
          go_wp2_with fail
          refine HAE.out.mono ?_
          rintro r w3 ⟨v3, rfl, q1, q2, _⟩
          have HX3 : Hid (Bys w3 B v3 (C ++ EL)) := q1
          have HB3 : Hid (Below B w w3) := HB2.out.trans q2
          clear q1 q2 HAE HB2
          go_wp2
          go_roundw
          case rel => exact ⟨j + 1, C ++ EL, by omega, by go_num, by rw [List.length_append]; omega, HX3.out, HB3.out, HH⟩
          case measure => simp [intOf]; omega
        · have hR := HR.out
          rw [List.drop_eq_nil_of_le (by have := HND.out; omega), List.flatMap_nil, List.append_nil] at hR
          have HXq : Hid (Bys wr B u0 (acc ++ faceL n ⟨cl, su, pr, nm, ex, en⟩)) := by show Bys _ _ _ _; rw [HF3.out, ← hR]; exact hX
          have HBq : Hid (Below B w wr) := hbr
          clear HCN HNO HR hR hX hbr
          go_wp2
          go_ret
          exact ⟨_, rfl, HXq.out, HBq.out⟩
end Go.Proofs.Ytonheibhbilhhaa.desc

/- desc: what WriteConfig answers. -/
namespace Go.Proofs.Ytonheibhbilhhaa.desc
open Go.RowKit Go.PlainAid Go.Proofs.Ytonheibhbilhhaa.lane
set_option linter.unusedVariables false

theorem facesL_at (L : FL) (k : Nat) (q : Fc × Value × Value) (h : L[k]? = some q) : facesL (k : Int) ((L.drop k).map Prod.fst) = faceL (k : Int) q.1 ++ facesL ((k + 1 : Nat) : Int) ((L.drop (k + 1)).map Prod.fst) := by
  obtain ⟨hk, he⟩ := List.getElem?_eq_some_iff.1 h
  rw [List.drop_eq_getElem_cons hk, he, List.map_cons, facesL]
  rfl
/-- what WriteConfig answers -/
def wcT (c : Cf) : ByteArray := if chkC c = 0 then strOfNums (confL c) else ⟨#[]⟩
set_option maxRecDepth 100000 in
set_option maxHeartbeats 4000000 in
theorem writeConfig_any (c : Cf) (v : Value) (L : FL) (w : World) (hc : Rc w v c L) :
    Calls Try.prog 18 #[cfV c v] w fun e w' => e = .returned (.tuple #[.string (wcT c), .int .i64 (chkC c)]) ∧ Below w.heap.size w w' := by
  obtain ⟨w0, hw0⟩ : ∃ w0, w.alloc (.cells #[.int .i64 c.va, .int .i64 c.na, .int .i64 c.atr, .int .i64 c.po, v] 26) = w0 := ⟨_, rfl⟩
  have hb0 : Below w.heap.size w w0 := by rw [← hw0]; exact balloc _ _
  obtain ⟨c0, c1, c2, c3, c4⟩ := box5 (show w0.heap[w.heap.size]? = some (.cells #[.int .i64 c.va, .int .i64 c.na, .int .i64 c.atr, .int .i64 c.po, v] 26) by rw [← hw0]; exact (MapKept.heap_alloc w _).1)
  have HC0 : Hid (Rc w0 v c L) := hc.below hb0
  have HCH : Hid (Calls Try.prog 35 #[cfV c v] w0 fun e w' => e = .returned (.int .i64 (chkC c)) ∧ Below w0.heap.size w0 w') := checkConfig_any c v L w0 HC0.out
  have HB0 : Hid (Below w.heap.size w w0) := hb0
  have hz0 : w.heap.size + 1 ≤ w0.heap.size := by rw [← hw0]; simp
  obtain ⟨a, n0, cap, rfl⟩ : ∃ a n c, v = .slice a n c := by obtain ⟨a, c, h, _⟩ := hc.fs.row; exact ⟨_, _, _, h⟩
  unfold wcT
  by_cases hz : chkC c = 0
  · rw [if_pos hz, hz]
    rw [hz] at HCH
    have hok := chkC_ok hz
    obtain ⟨⟨⟨b1, b1'⟩, ⟨b2, b2'⟩, ⟨b3, b3'⟩, b4, b4'⟩, hlen, hfok⟩ := hok
    have hcl := confL_le (chkC_ok hz)
    rw [confL_length] at hcl
    have hcf : confL c = [9, 2] ++ wrd (9 + ((facesL 0 c.fs).length : Int)) ++ [(c.fs.length : Int), c.va, c.na, c.atr, c.po] ++ facesL 0 c.fs := rfl
    rw [hcf]
    obtain ⟨va, na, atr, po, fs⟩ := c
    simp only at *
    have heq := hc.eq
    simp only at heq
    subst heq
    rw [List.length_map] at hlen ⊢
    have HFO : Hid (∀ q ∈ L, FOk q.1) := fun q hq => hfok q.1 (List.mem_map.2 ⟨q, hq, rfl⟩)
    clear hz hb0 hc hcf hfok
    go_enter Try.func18, Try.ntmps18
    go_wp2_with fail
    refine HCH.out.mono ?_
    rintro e W ⟨rfl, hbW⟩
    have HRW : Hid (Rfs W (.slice a n0 cap) L) := (HC0.out.below hbW).fs
    have HBW : Hid (Below w.heap.size w W) := bsq HB0.out hbW
    have HLT : Hid (w.heap.size < W.heap.size) := by have := hbW.size; show _ < _; omega
    have d0 := kc hbW c0
    have d1 := kc hbW c1
    have d2 := kc hbW c2
    have d3 := kc hbW c3
    have d4 := kc hbW c4
    have HD : Hid (∀ u, Below W.heap.size W u → u.cell? ⟨w.heap.size, 0, none⟩ = some (.int .i64 va) ∧ u.cell? ⟨w.heap.size, 1, none⟩ = some (.int .i64 na) ∧ u.cell? ⟨w.heap.size, 2, none⟩ = some (.int .i64 atr) ∧ u.cell? ⟨w.heap.size, 3, none⟩ = some (.int .i64 po) ∧ u.cell? ⟨w.heap.size, 4, none⟩ = some (.slice a n0 cap)) := fun u hu => ⟨kc hu d0, kc hu d1, kc hu d2, kc hu d3, kc hu d4⟩
    obtain ⟨a', cap', hv, hlc, hcm, hcell⟩ := HRW.out.cell
    injection hv with ea en ec
    subst ea en ec
    have HC : Hid (∀ u, Below W.heap.size W u → ∀ j q, L[j]? = some q → ∃ g off, a = some ⟨g, off, none⟩ ∧ u.cell? ⟨g, off + j * 6, none⟩ = some (.int .i64 q.1.cl) ∧ u.cell? ⟨g, off + j * 6 + 1, none⟩ = some (.int .i64 q.1.su) ∧ u.cell? ⟨g, off + j * 6 + 2, none⟩ = some (.int .i64 q.1.pr) ∧ u.cell? ⟨g, off + j * 6 + 3, none⟩ = some (.int .i64 q.1.nm) ∧ u.cell? ⟨g, off + j * 6 + 4, none⟩ = some q.2.1 ∧ u.cell? ⟨g, off + j * 6 + 5, none⟩ = some q.2.2) := by
      intro u hu j q hq
      obtain ⟨g, off, ha, k0, k1, k2, k3, k4, k5⟩ := hcell j q hq
      exact ⟨g, off, ha, kc hu k0, kc hu k1, kc hu k2, kc hu k3, kc hu k4, kc hu k5⟩
    have HRf : Hid (∀ u, Below W.heap.size W u → ∀ q ∈ L, Rf u q) := fun u hu q hq => (HRW.out.all q hq).below hu
    unfold maxLen at hcm
    obtain ⟨n, hn⟩ : ∃ n, L.length = n := ⟨_, rfl⟩
    have HN : Hid (L.length = n) := hn
    have HHn : Hid (chkC ⟨va, na, atr, po, L.map Prod.fst⟩ = 0 → True) := fun _ => trivial
    rw [hn] at hlc hlen d4 HD ⊢
    obtain ⟨Fz, hFz⟩ : ∃ Fz, facesL 0 (L.map Prod.fst) = Fz := ⟨_, rfl⟩
    have HFz : Hid (facesL 0 (L.map Prod.fst) = Fz) := hFz
    rw [hFz] at hcl
    clear hbW c0 c1 c2 c3 c4 hcell HRW HC0 HHn hn hw0 hFz
    go_wp2
    go_loopw [5, 17] (fun tv i wr => ∃ (k : Nat) (A : List Int), k ≤ n ∧ i = .int .i64 (k : Int) ∧ A.length ≤ 101 * k ∧ Bys wr W.heap.size tv A ∧ Below W.heap.size W wr ∧ Hid (A ++ facesL (k : Int) ((L.drop k).map Prod.fst) = Fz)) (fun _ i _ => n - (intOf i).toNat)
    case atStart => exact ⟨0, [], Nat.zero_le _, rfl, by simp, Bys.nil _ _, Below.refl _ _, HFz.out⟩
    case round =>
      obtain ⟨k, A, hk, rfl, hAl, hX, hbr, HR⟩ := hrel
      have hzr : W.heap.size ≤ wr.heap.size := hbr.size
      by_cases hlt : k < n
      · have hk1 : k < L.length := by have := HN.out; omega
        obtain ⟨q, hq⟩ : ∃ q, L[k]? = some q := ⟨L[k], List.getElem?_eq_getElem hk1⟩
        obtain ⟨g, off, rfl, k0, k1, k2, k3, k4, k5⟩ := HC.out wr hbr k q hq
        have hqm := List.mem_of_getElem? hq
        have hfo := HFO.out q hqm
        have hR := HR.out
        rw [facesL_at L k q hq, ← List.append_assoc] at hR
        have HH : Hid (A ++ faceL (k : Int) q.1 ++ facesL ((k + 1 : Nat) : Int) ((L.drop (k + 1)).map Prod.fst) = Fz) := hR
        have hfl := faceL_le (i := (k : Int)) hfo
        obtain ⟨ve1, ve2, ve3, hve⟩ : ∃ a n c, q.2.1 = .slice a n c := by obtain ⟨a, c, h, _⟩ := (HRf.out wr hbr q hqm).ex; exact ⟨_, _, _, h⟩
        obtain ⟨vd1, vd2, vd3, hvd⟩ : ∃ a n c, q.2.2 = .slice a n c := by obtain ⟨a, c, h, _⟩ := (HRf.out wr hbr q hqm).en; exact ⟨_, _, _, h⟩
        obtain ⟨w3, hw3⟩ : ∃ w3, wr.alloc (.cells #[.int .i64 q.1.cl, .int .i64 q.1.su, .int .i64 q.1.pr, .int .i64 q.1.nm, q.2.1, q.2.2] 76) = w3 := ⟨_, rfl⟩
        have hb3 : Below wr.heap.size wr w3 := by rw [← hw3]; exact balloc _ _
        have hbW3 : Below W.heap.size W w3 := hbr.trans (hb3.mono hzr)
        obtain ⟨e0, e1, e2, e3, e4, e5⟩ := box6 (show w3.heap[wr.heap.size]? = some (.cells #[.int .i64 q.1.cl, .int .i64 q.1.su, .int .i64 q.1.pr, .int .i64 q.1.nm, q.2.1, q.2.2] 76) by rw [← hw3]; exact (MapKept.heap_alloc wr _).1)
        have HAF : Hid (Calls Try.prog 36 #[u5, .int .i64 (k : Int), fcV q.1 q.2.1 q.2.2] w3 fun r w' => ∃ v', r = .returned v' ∧ Bys w' W.heap.size v' (A ++ faceL (k : Int) q.1) ∧ Below W.heap.size w3 w') :=
          appendFace_any W.heap.size u5 A k q w3 (by omega) hfo (Bys.below hX hb3) (Nat.le_trans hzr hb3.size) (by omega) (fun u hu => HRf.out u (hbW3.trans hu) q hqm)
        have HB3 : Hid (Below W.heap.size W w3) := hbW3
        obtain ⟨FL1, hFL1⟩ : ∃ F, faceL (k : Int) q.1 = F := ⟨_, rfl⟩
        rw [hFL1] at HAF HH hfl
        obtain ⟨⟨cl, su, pr, nm, ex, en⟩, ve, vd⟩ := q
        simp only at *
        subst hve hvd
        clear HC HFO HRf HR hR hq hqm hfo hX hbr hb3 hbW3 hFL1
        go_wp2_with fail
        refine HAF.out.mono ?_
        rintro r w4 ⟨v4, rfl, q1, q2⟩
        have HX4 : Hid (Bys w4 W.heap.size v4 (A ++ FL1)) := q1
        have HB4 : Hid (Below W.heap.size W w4) := HB3.out.trans q2
        clear q1 q2 HAF HB3
        go_wp2
        go_roundw
        case rel => exact ⟨k + 1, A ++ FL1, by omega, by go_num, by rw [List.length_append]; omega, HX4.out, HB4.out, HH⟩
        case measure => simp [intOf]; omega
      · have hR := HR.out
        rw [List.drop_eq_nil_of_le (by have := HN.out; omega), List.map_nil, facesL, List.append_nil] at hR
        subst hR
        have HX : Hid (Bys wr W.heap.size u5 A) := hX
        obtain ⟨fa, fc, rfl, _, _⟩ := own_form hX
        obtain ⟨wb, hwb⟩ : ∃ wb, wr.alloc (.cells #[.int .u8 9, .int .u8 2] 5) = wb := ⟨_, rfl⟩
        have HT : Hid (Bys wb wr.heap.size (.slice (some ⟨wr.heap.size, 0, none⟩) 2 2) [9, 2]) := by rw [← hwb]; exact bys_lit wr _ [9, 2] (Nat.le_refl _) (by simp [maxLen])
        have hbb : Below wr.heap.size wr wb := by rw [← hwb]; exact balloc _ _
        have HBb : Hid (Below wr.heap.size wr wb) := hbb
        have HBr : Hid (Below W.heap.size W wr) := hbr
        obtain ⟨m, hm⟩ : ∃ m, A.length = m := ⟨_, rfl⟩
        rw [hm] at hcl HX ⊢
        have HM : Hid (A.length = m) := hm
        have hzb : wr.heap.size ≤ wb.heap.size := hbb.size
        clear HR hX hbr hbb HC HFO HRf hm
        go_wp2_with fail
        refine (appendWord_any wr.heap.size _ [9, 2] (9 + (m : Int)) (by omega) (by omega) _ HT.out hzb (by decide)).mono ?_
        rintro r wc ⟨v1, rfl, h1, h2⟩
        have HBc : Hid (Below wr.heap.size wr wc) := HBb.out.trans h2
        have HXc : Hid (Bys wc wr.heap.size v1 ([9, 2] ++ wrd (9 + (m : Int)))) := h1
        obtain ⟨c0, c1, c2, c3, c4⟩ := HD.out wc (HBr.out.trans (HBc.out.mono hzr))
        have hzc : wr.heap.size ≤ wc.heap.size := HBc.out.size
        clear h1 h2 hwb HT HBb d0 d1 d2 d3 d4
        go_wp2_with (at_builtin; (refine wpList_bys _ rfl _ _ rfl wr.heap.size _ ([9, 2] ++ wrd (9 + (m : Int))) rfl (World.ownsRow.alloc HXc.out _) wc.heap.size 5 5 [(n : Int), va, na, atr, po] rfl rfl (bys_new wc [(n : Int), va, na, atr, po] _) (by simp [wrd]) (by omega) (by simp; omega) ?_))
        intro v2 wd h1 hg1 h2
        have HBd : Hid (Below wr.heap.size wr wd) := (HBc.out.alloc (by omega) _).trans h2
        obtain ⟨Hd, hHd⟩ : ∃ Hd, [9, 2] ++ wrd (9 + (m : Int)) ++ [(n : Int), va, na, atr, po] = Hd := ⟨_, rfl⟩
        have h3 : Bys wd wr.heap.size v2 Hd := by rw [← hHd]; simpa using h1
        have HXd : Hid (Bys wd wr.heap.size v2 Hd) := h3
        have HHd : Hid ([9, 2] ++ wrd (9 + (m : Int)) ++ [(n : Int), va, na, atr, po] = Hd) := hHd
        have hHl : Hd.length = 9 := by rw [← hHd]; rfl
        have HXf : Hid (Bys wd W.heap.size (.slice fa m fc) A) := own_below HX.out HBd.out
        have hzd : wr.heap.size ≤ wd.heap.size := HBd.out.size
        have hAm : A.length ≤ 1000000 := by have := HM.out; omega
        clear h1 h2 h3 hg1 HXc HBc c0 c1 c2 c3 c4 hHd HX
        go_wp2_with (at_builtin; (refine wpList_brow _ rfl _ _ rfl wr.heap.size W.heap.size _ _ Hd A rfl HXd.out rfl HXf.out (by omega) hAm hzd ?_))
        intro v5 we h1 h2
        have HBe : Hid (Below w.heap.size w we) := (HBW.out.trans (HBr.out.mono HBW.out.size)).trans ((HBd.out.trans h2).mono (Nat.le_trans HBW.out.size hzr))
        have hcv := h1.conv
        obtain ⟨X, hX⟩ : ∃ X, strOfNums (Hd ++ A) = X := ⟨_, rfl⟩
        rw [hX] at hcv
        have HX : Hid (strOfNums (Hd ++ A) = X) := hX
        clear h1 h2 hX HXd HXf
        go_wp2
        go_ret2
        refine ⟨?_, HBe.out⟩
        rw [HFz.out, ← HX.out, ← HHd.out, HM.out, HN.out]
        rfl
  · rw [if_neg hz]
    have hzz : (chkC c != 0) = true := by simpa using hz
    generalize chkC c = z at *
    obtain ⟨va, na, atr, po, fs⟩ := c
    simp only at *
    clear hz hc HC0 hb0
    go_enter Try.func18, Try.ntmps18
    go_wp2_with fail
    refine HCH.out.mono ?_
    rintro e W ⟨rfl, hbW⟩
    have HBW : Hid (Below w.heap.size w W) := bsq HB0.out hbW
    clear hbW
    go_wp2
    go_ret2
    exact ⟨rfl, HBW.out⟩
end Go.Proofs.Ytonheibhbilhhaa.desc

/- a device and a configuration as arguments: what their cells hold. -/
namespace Go.Proofs.Ytonheibhbilhhaa.desc
open Go.ChangeShapes Go.WideShapes Go.ChangeAt Go.RowKit Go.Proofs.Ytonheibhbilhhaa.lane Go.PlainAid Go.Deep
set_option linter.unusedVariables false
set_option maxRecDepth 10000

theorem laid_out : laidOutB Try.prog = true := by kernel_rfl
theorem int_cells : Try.prog.cellsOf 3 = 1 := by kernel_rfl
theorem bool_cells : Try.prog.cellsOf 4 = 1 := by kernel_rfl
theorem txt_cells : Try.prog.cellsOf 9 = 1 := by kernel_rfl
theorem txs_cells : Try.prog.cellsOf 42 = 1 := by kernel_rfl
theorem ens_cells : Try.prog.cellsOf 74 = 1 := by kernel_rfl
theorem fcs_cells : Try.prog.cellsOf 24 = 1 := by kernel_rfl
theorem end_cells : Try.prog.cellsOf 85 = 5 := by kernel_rfl
theorem face_cells : Try.prog.cellsOf 76 = 6 := by kernel_rfl
theorem conf_cells : Try.prog.cellsOf 26 = 5 := by kernel_rfl
theorem flat_len {α : Type} (f : α → List Value) (s : Nat) (hs : ∀ x, (f x).length = s) (l : List α) : (l.flatMap f).length = l.length * s := by
  induction l with
  | nil => simp
  | cons x r ih => rw [List.flatMap_cons, List.length_append, ih, hs, List.length_cons, Nat.add_mul]; omega
theorem flat_at {α : Type} (f : α → List Value) (s : Nat) (hs : ∀ x, (f x).length = s) : ∀ (l : List α) (i r : Nat) (y : Value), r < s → (l.flatMap f)[i * s + r]? = some y → ∃ x, l[i]? = some x ∧ (f x)[r]? = some y := by
  intro l
  induction l with
  | nil => intro i r y _ h; simp at h
  | cons a t ih =>
    intro i r y hr h
    rw [List.flatMap_cons] at h
    cases i with
    | zero =>
      rw [Nat.zero_mul, Nat.zero_add, List.getElem?_append_left (by rw [hs]; exact hr)] at h
      exact ⟨a, rfl, h⟩
    | succ i =>
      rw [List.getElem?_append_right (by rw [hs, Nat.add_mul]; omega), hs, show (i + 1) * s + r - s = i * s + r by rw [Nat.add_mul]; omega] at h
      obtain ⟨x, h1, h2⟩ := ih i r y hr h
      exact ⟨x, by simpa using h1, h2⟩
theorem Rdg.rows {α : Type} {w : World} (f : α → List Value) (s : Nat) (h0 : 0 < s) (hs : ∀ x, (f x).length = s) (a : Addr) (l : List α) (cap : Nat) (hl : l.length ≤ cap) (hm : cap ≤ maxLen)
    (hc : ∀ i x, l[i]? = some x → ∀ r y, (f x)[r]? = some y → w.cell? (a.add (i * s + r)) = some y) : Rdg w s (.slice (some a) l.length cap) l.length (l.flatMap f) := by
  refine ⟨some a, cap, rfl, hl, hm, flat_len f s hs l, fun hn => ?_⟩
  have hcell : ∀ j y, (l.flatMap f)[j]? = some y → w.cell? (a.add j) = some y := by
    intro j y hj
    have e : j / s * s + j % s = j := by rw [Nat.mul_comm]; exact Nat.div_add_mod j s
    rw [← e] at hj
    obtain ⟨x, h1, h2⟩ := flat_at f s hs l (j / s) (j % s) y (Nat.mod_lt _ h0) hj
    have := hc _ x h1 _ y h2
    rwa [e] at this
  obtain ⟨b, off, spot⟩ := a
  have hne : 0 < (l.flatMap f).length := by rw [flat_len f s hs l]; exact Nat.mul_pos hn h0
  have hc0 := hcell 0 _ (List.getElem?_eq_getElem hne)
  have hspot : spot = none := by simpa [Addr.add] using World.cell?_spot hc0
  subst hspot
  refine ⟨b, off, rfl, ?_, fun j y hj => ?_⟩
  · have := World.block_lt_of_cell? w _ hc0
    simpa [Addr.add] using this
  · have := hcell j y hj
    rwa [Addr.add_lit] at this
theorem range_at {α : Type} {f : Nat → α} {len i : Nat} {x : α} (h : ((List.range len).map f)[i]? = some x) : i < len ∧ f i = x := by
  rw [List.getElem?_map] at h
  have hi : i < len := by
    rcases Nat.lt_or_ge i len with q | q
    · exact q
    · rw [List.getElem?_eq_none (by simpa using q)] at h; cases h
  rw [List.getElem?_eq_getElem (by simpa using hi)] at h
  simp at h
  exact ⟨hi, h⟩
theorem tcells_flat (ps : List (List Int)) : tcells ps = ps.flatMap fun p => [Value.string (strOfNums p)] := by
  induction ps with
  | nil => rfl
  | cons p r ih => rw [tcells, List.map_cons, List.flatMap_cons, ← ih]; rfl
theorem add_add {w : World} {a : Addr} {i r : Nat} {z : Value} (hz : w.cell? a = some z) : (a.add i).add r = a.add (i + r) := by
  have := World.cell?_spot hz
  obtain ⟨b, off, spot⟩ := a
  simp only at this
  subst this
  rw [Addr.add_lit, Addr.add_lit, Addr.add_lit, Nat.add_assoc]
theorem Rdg.none (w : World) (s : Nat) : Rdg w s (.slice Option.none 0 0) 0 [] := ⟨Option.none, 0, rfl, Nat.le_refl _, Nat.zero_le _, by simp, fun h => by omega⟩
section
variable {H : Type} {enc : TypeId × Value → H} {w : World} {base : Nat} {spare : Nat → Bool} {held : Bool}
theorem open_txs {fuel : Nat} {v : Value} {x : DataW H × List MemPlace} (h : DataW.trod enc Try.prog w base spare held fuel 42 [v] = some x) : ∃ ps, Rts w v ps ∧ BB ps ∧ ∀ p ∈ ps, p.length ≤ maxLen := by
  rcases open_strs Try.underlying42 Try.underlying9 txt_cells h with ⟨hcs, _⟩ | ⟨a, len, cap, m, Sx, hcs, _, hl, hm, hmm, _, hcell⟩
  · simp at hcs; subst hcs
    exact ⟨[], Rdg.none w 1, fun p hp => by simp at hp, fun p hp => by simp at hp⟩
  · simp at hcs; subst hcs
    have hlm : len ≤ m := by rw [hmm]; split <;> omega
    refine ⟨(List.range len).map fun i => nums (Sx i), ?_, ?_, ?_⟩
    · have hpl : ((List.range len).map fun i => nums (Sx i)).length = len := by simp
      have := Rdg.rows (w := w) (fun p : List Int => [Value.string (strOfNums p)]) 1 (by omega) (fun _ => rfl) a ((List.range len).map fun i => nums (Sx i)) cap (by simpa using hl) hm (by
        intro i x hx r y hy
        obtain ⟨hi, rfl⟩ := range_at hx
        match r, hy with
        | 0, hy =>
          simp at hy; subst hy
          rw [str_nums, Nat.mul_one, Nat.add_zero]
          exact (hcell i (by omega)).1
        | (r + 1), hy => simp at hy)
      rw [← tcells_flat] at this
      unfold Rts
      rw [hpl] at this ⊢
      exact this
    · intro p hp
      obtain ⟨i, _, rfl⟩ := List.mem_map.1 hp
      exact nums_byt _
    · intro p hp
      obtain ⟨i, hi, rfl⟩ := List.mem_map.1 hp
      rw [nums_length]
      exact (hcell i (by have := List.mem_range.1 hi; omega)).2

theorem open_end {fuel : Nat} {cs : List Value} {x : DataW H × List MemPlace} (h : DataW.trod enc Try.prog w base spare held fuel 85 cs = some x) : ∃ e, cs = ecell e := by
  obtain ⟨xs, n, _, hx, hlen, hxl, hfs⟩ := DataW.trod_struct Try.underlying85 h
  rw [end_cells] at hlen
  match cs, hlen with
  | [c0, c1, c2, c3, c4], _ =>
    have g0 := hfs 0 _ rfl
    have g1 := hfs 1 _ rfl
    have g2 := hfs 2 _ rfl
    have g3 := hfs 3 _ rfl
    have g4 := hfs 4 _ rfl
    match xs, hxl with
    | [y0, y1, y2, y3, y4], _ =>
      simp [int_cells, bool_cells] at g0 g1 g2 g3 g4
      obtain ⟨k0, e0, _, _⟩ := DataW.trod_int Try.underlying3 g0
      obtain ⟨k1, e1, _⟩ := DataW.trod_bool Try.underlying4 g1
      obtain ⟨k2, e2, _, _⟩ := DataW.trod_int Try.underlying3 g2
      obtain ⟨k3, e3, _, _⟩ := DataW.trod_int Try.underlying3 g3
      obtain ⟨k4, e4, _, _⟩ := DataW.trod_int Try.underlying3 g4
      simp at e0 e1 e2 e3 e4
      subst e0 e1 e2 e3 e4
      exact ⟨⟨k0, k1, k2, k3, k4⟩, rfl⟩
theorem open_ens {fuel : Nat} {v : Value} {x : DataW H × List MemPlace} (h : DataW.trod enc Try.prog w base spare held fuel 74 [v] = some x) : ∃ es, Rns w v es := by
  rcases open_slice Try.underlying74 h with ⟨hcs, _⟩ | ⟨a, len, cap, m, n, D, Pl, hcs, _, hl, hm, hmm, _, hcell⟩
  · simp at hcs; subst hcs
    exact ⟨[], Rdg.none w 5⟩
  · simp at hcs; subst hcs
    have hlm : len ≤ m := by rw [hmm]; split <;> omega
    rw [end_cells] at hcell
    have hE : ∀ i, i < len → ∃ e : En, ∀ r y, (ecell e)[r]? = some y → w.cell? ((a.add (i * 5)).add r) = some y := by
      intro i hi
      obtain ⟨cs', h1, h2⟩ := hcell i (by omega)
      obtain ⟨e, rfl⟩ := open_end h2
      obtain ⟨_, _, h3⟩ := World.cells?_some h1
      refine ⟨e, fun r y hy => ?_⟩
      have hr : r < 5 := (List.getElem?_eq_some_iff.1 hy).1
      rw [h3 r hr]; exact hy
    haveI : Inhabited En := ⟨⟨0, false, 0, 0, 0⟩⟩
    obtain ⟨E, hE⟩ := choose_lt hE
    refine ⟨(List.range len).map E, ?_⟩
    have hpl : ((List.range len).map E).length = len := by simp
    have := Rdg.rows (w := w) ecell 5 (by omega) (fun _ => rfl) a ((List.range len).map E) cap (by simpa using hl) hm (by
      intro i x hx r y hy
      obtain ⟨hi, rfl⟩ := range_at hx
      have h0 := hE 0 (by omega) 0 _ rfl
      rw [Nat.zero_mul] at h0
      rw [← add_add (z := .int .i64 (E 0).ad) (by simpa [Addr.add] using h0)]
      exact hE i hi r y hy)
    unfold Rns
    rw [hpl] at this ⊢
    exact this
theorem open_face {fuel : Nat} {cs : List Value} {x : DataW H × List MemPlace} (h : DataW.trod enc Try.prog w base spare held fuel 76 cs = some x) : ∃ q : Fc × Value × Value, cs = fcell q ∧ Rf w q := by
  obtain ⟨xs, n, _, hx, hlen, hxl, hfs⟩ := DataW.trod_struct Try.underlying76 h
  rw [face_cells] at hlen
  match cs, hlen with
  | [c0, c1, c2, c3, c4, c5], _ =>
    have g0 := hfs 0 _ rfl
    have g1 := hfs 1 _ rfl
    have g2 := hfs 2 _ rfl
    have g3 := hfs 3 _ rfl
    have g4 := hfs 4 _ rfl
    have g5 := hfs 5 _ rfl
    match xs, hxl with
    | [y0, y1, y2, y3, y4, y5], _ =>
      simp [int_cells, txs_cells, ens_cells] at g0 g1 g2 g3 g4 g5
      obtain ⟨k0, e0, _, _⟩ := DataW.trod_int Try.underlying3 g0
      obtain ⟨k1, e1, _, _⟩ := DataW.trod_int Try.underlying3 g1
      obtain ⟨k2, e2, _, _⟩ := DataW.trod_int Try.underlying3 g2
      obtain ⟨k3, e3, _, _⟩ := DataW.trod_int Try.underlying3 g3
      obtain ⟨ps, p1, p2, p3⟩ := open_txs g4
      obtain ⟨es, p4⟩ := open_ens g5
      simp at e0 e1 e2 e3
      subst e0 e1 e2 e3
      exact ⟨(⟨k0, k1, k2, k3, ps, es⟩, c4, c5), rfl, p1, p4, p2, p3⟩
theorem open_fcs {fuel : Nat} {v : Value} {x : DataW H × List MemPlace} (h : DataW.trod enc Try.prog w base spare held fuel 24 [v] = some x) : ∃ L, Rfs w v L := by
  rcases open_slice Try.underlying24 h with ⟨hcs, _⟩ | ⟨a, len, cap, m, n, D, Pl, hcs, _, hl, hm, hmm, _, hcell⟩
  · simp at hcs; subst hcs
    exact ⟨[], Rdg.none w 6, fun q hq => by simp at hq⟩
  · simp at hcs; subst hcs
    have hlm : len ≤ m := by rw [hmm]; split <;> omega
    rw [face_cells] at hcell
    have hE : ∀ i, i < len → ∃ q : Fc × Value × Value, Rf w q ∧ ∀ r y, (fcell q)[r]? = some y → w.cell? ((a.add (i * 6)).add r) = some y := by
      intro i hi
      obtain ⟨cs', h1, h2⟩ := hcell i (by omega)
      obtain ⟨q, rfl, hq⟩ := open_face h2
      obtain ⟨_, _, h3⟩ := World.cells?_some h1
      refine ⟨q, hq, fun r y hy => ?_⟩
      have hr : r < 6 := (List.getElem?_eq_some_iff.1 hy).1
      rw [h3 r hr]; exact hy
    haveI : Inhabited (Fc × Value × Value) := ⟨(⟨0, 0, 0, 0, [], []⟩, .bool false, .bool false)⟩
    obtain ⟨E, hE⟩ := choose_lt hE
    refine ⟨(List.range len).map E, ?_, fun q hq => ?_⟩
    · have hpl : ((List.range len).map E).length = len := by simp
      have := Rdg.rows (w := w) fcell 6 (by omega) (fun _ => rfl) a ((List.range len).map E) cap (by simpa using hl) hm (by
        intro i x hx r y hy
        obtain ⟨hi, rfl⟩ := range_at hx
        have h0 := (hE 0 (by omega)).2 0 _ rfl
        rw [Nat.zero_mul] at h0
        rw [← add_add (z := .int .i64 (E 0).1.cl) (by simpa [Addr.add] using h0)]
        exact (hE i hi).2 r y hy)
      rw [hpl] at this ⊢
      exact this
    · obtain ⟨i, hi, rfl⟩ := List.mem_map.1 hq
      exact (hE i (List.mem_range.1 hi)).1
theorem cf_open {r : Reach} {b0 : Nat} {v : Value} {x : DataW H} {p : List MemPlace} (hv : Value.okWide Try.prog w r b0 26 v) (h : DataW.Trod enc Try.prog w base spare held 26 v x p) :
    ∃ (c : Cf) (u : Value) (L : FL), v = cfV c u ∧ Rc w u c L := by
  obtain ⟨cs, rfl, hsz⟩ := okWide_struct Try.underlying26 hv
  obtain ⟨fuel, hf⟩ := h
  obtain ⟨xs, n, _, hx, _, hxl, hfs⟩ := DataW.trod_struct Try.underlying26 hf
  obtain ⟨l⟩ := cs
  have hl5 : l.length = 5 := hsz.trans conf_cells
  match l, hl5 with
  | [c0, c1, c2, c3, c4], _ =>
    have g0 := hfs 0 _ rfl
    have g1 := hfs 1 _ rfl
    have g2 := hfs 2 _ rfl
    have g3 := hfs 3 _ rfl
    have g4 := hfs 4 _ rfl
    match xs, hxl with
    | [y0, y1, y2, y3, y4], _ =>
      simp [Value.cells, int_cells, fcs_cells] at g0 g1 g2 g3 g4
      obtain ⟨k0, e0, _, _⟩ := DataW.trod_int Try.underlying3 g0
      obtain ⟨k1, e1, _, _⟩ := DataW.trod_int Try.underlying3 g1
      obtain ⟨k2, e2, _, _⟩ := DataW.trod_int Try.underlying3 g2
      obtain ⟨k3, e3, _, _⟩ := DataW.trod_int Try.underlying3 g3
      obtain ⟨L, hL⟩ := open_fcs g4
      simp at e0 e1 e2 e3
      subst e0 e1 e2 e3
      exact ⟨⟨k0, k1, k2, k3, L.map Prod.fst⟩, c4, L, rfl, hL, rfl⟩
theorem dev_cells : Try.prog.cellsOf 23 = 12 := by kernel_rfl
theorem dv_open {r : Reach} {b0 : Nat} {v : Value} {x : DataW H} {p : List MemPlace} (hv : Value.okWide Try.prog w r b0 23 v) (h : DataW.Trod enc Try.prog w base spare held 23 v x p) :
    ∃ d : Dv, v = dvV d := by
  obtain ⟨cs, rfl, hsz⟩ := okWide_struct Try.underlying23 hv
  obtain ⟨fuel, hf⟩ := h
  obtain ⟨xs, n, _, hx, _, hxl, hfs⟩ := DataW.trod_struct Try.underlying23 hf
  obtain ⟨l⟩ := cs
  have hl5 : l.length = 12 := hsz.trans dev_cells
  match l, hl5 with
  | [c0, c1, c2, c3, c4, c5, c6, c7, c8, c9, c10, c11], _ =>
    match xs, hxl with
    | [y0, y1, y2, y3, y4, y5, y6, y7, y8, y9, y10, y11], _ =>
      have g0 := hfs 0 _ rfl
      have g1 := hfs 1 _ rfl
      have g2 := hfs 2 _ rfl
      have g3 := hfs 3 _ rfl
      have g4 := hfs 4 _ rfl
      have g5 := hfs 5 _ rfl
      have g6 := hfs 6 _ rfl
      have g7 := hfs 7 _ rfl
      have g8 := hfs 8 _ rfl
      have g9 := hfs 9 _ rfl
      have g10 := hfs 10 _ rfl
      have g11 := hfs 11 _ rfl
      simp [Value.cells, int_cells] at g0 g1 g2 g3 g4 g5 g6 g7 g8 g9 g10 g11
      obtain ⟨k0, e0, _, _⟩ := DataW.trod_int Try.underlying3 g0
      obtain ⟨k1, e1, _, _⟩ := DataW.trod_int Try.underlying3 g1
      obtain ⟨k2, e2, _, _⟩ := DataW.trod_int Try.underlying3 g2
      obtain ⟨k3, e3, _, _⟩ := DataW.trod_int Try.underlying3 g3
      obtain ⟨k4, e4, _, _⟩ := DataW.trod_int Try.underlying3 g4
      obtain ⟨k5, e5, _, _⟩ := DataW.trod_int Try.underlying3 g5
      obtain ⟨k6, e6, _, _⟩ := DataW.trod_int Try.underlying3 g6
      obtain ⟨k7, e7, _, _⟩ := DataW.trod_int Try.underlying3 g7
      obtain ⟨k8, e8, _, _⟩ := DataW.trod_int Try.underlying3 g8
      obtain ⟨k9, e9, _, _⟩ := DataW.trod_int Try.underlying3 g9
      obtain ⟨k10, e10, _, _⟩ := DataW.trod_int Try.underlying3 g10
      obtain ⟨k11, e11, _, _⟩ := DataW.trod_int Try.underlying3 g11
      simp at e0 e1 e2 e3 e4 e5 e6 e7 e8 e9 e10 e11
      subst e0 e1 e2 e3 e4 e5 e6 e7 e8 e9 e10 e11
      exact ⟨⟨k0, k1, k2, k3, k4, k5, k6, k7, k8, k9, k10, k11⟩, rfl⟩
end
end Go.Proofs.Ytonheibhbilhhaa.desc

/- plugkeep: what descLives answers. -/
namespace Go.Proofs.Ytonheibhbilhhaa.desc
open Go.RowKit Go.PlainAid Go.Proofs.Ytonheibhbilhhaa.lane
set_option linter.unusedVariables false

theorem Rc.empty (w : World) (va na atr po : Int) : Rc w (.slice none 0 0) ⟨va, na, atr, po, []⟩ [] :=
  ⟨⟨⟨none, 0, rfl, Nat.le_refl _, Nat.zero_le _, rfl, fun h => absurd h (by decide)⟩, fun q hq => by simp at hq⟩, rfl⟩
theorem lives_c : chkC ⟨1, 0, 0, 50, []⟩ = 0 := by decide +kernel
theorem lives_t : wcT ⟨1, 0, 0, 50, []⟩ = ⟨#[9, 2, 9, 0, 0, 1, 0, 0, 50]⟩ := by decide +kernel
theorem confH_len (n k : Int) (c : Cf) : (confH n k c).length = 9 := rfl
theorem facesP_cons (i : Int) (f : Fc) (r : List Fc) : (facesP i (f :: r)).length = 1 + f.ex.length + f.en.length + (facesP (i + 1) r).length := by
  rw [facesP, List.length_append, faceP, List.length_cons, List.length_append, List.length_map]; omega
theorem facesL_cons (i : Int) (f : Fc) (r : List Fc) : (facesL i (f :: r)).length = 9 + 7 * f.en.length + f.ex.flatten.length + (facesL (i + 1) r).length := by
  rw [facesL, List.length_append, faceL_length]
theorem facesP_any : ∀ (l : List Fc) (i j : Int), (facesP i l).length = (facesP j l).length := by
  intro l
  induction l with
  | nil => intro i j; rfl
  | cons f r ih => intro i j; rw [facesP_cons, facesP_cons, ih (i + 1) (j + 1)]
theorem facesL_any : ∀ (l : List Fc) (i j : Int), (facesL i l).length = (facesL j l).length := by
  intro l
  induction l with
  | nil => intro i j; rfl
  | cons f r ih => intro i j; rw [facesL_cons, facesL_cons, ih (i + 1) (j + 1)]
theorem wrap_small (x : Int) (h0 : 0 ≤ x) (h1 : x ≤ 1000000000) : IntKind.i64.wrap x = x := by rw [IntKind.wrap_i64]; omega
theorem byt_endL {e : En} (h : endOk e = true) : Byt (endL e) := by
  obtain ⟨⟨a1, a2⟩, ⟨k1, k2⟩, ⟨m1, m2⟩, i1, i2⟩ := (endOk_iff e).1 h
  obtain ⟨ad, inw, kd, mx, iv⟩ := e
  simp only at *
  intro x hx
  simp only [endL, wrd, List.cons_append, List.nil_append, List.mem_cons, List.not_mem_nil, or_false] at hx
  cases inw <;> simp at hx <;> omega
theorem byt_append {a b : List Int} (ha : Byt a) (hb : Byt b) : Byt (a ++ b) := fun x hx => by
  rcases List.mem_append.1 hx with h | h
  · exact ha x h
  · exact hb x h
theorem byt_flatten {l : List (List Int)} (h : BB l) : Byt l.flatten := fun x hx => by
  obtain ⟨p, hp, hx⟩ := List.mem_flatten.1 hx
  exact h p hp x hx
theorem byt_faceL {i : Int} {f : Fc} (h0 : 0 ≤ i) (h1 : i ≤ 255) (h : FOk f) (hb : BB f.ex) : Byt (faceL i f) := by
  refine byt_append ?_ (byt_append (byt_flatten hb) ?_)
  · have h2 := h.head
    have h3 := h.enl
    intro x hx
    simp only [faceH, List.mem_cons, List.not_mem_nil, or_false] at hx
    omega
  · intro x hx
    obtain ⟨e, he, hx⟩ := List.mem_flatMap.1 hx
    exact byt_endL (h.en e he) x hx
theorem byt_facesL : ∀ (l : List Fc) (i : Int), 0 ≤ i → i + l.length ≤ 255 → (∀ f ∈ l, FOk f) → (∀ f ∈ l, BB f.ex) → Byt (facesL i l) := by
  intro l
  induction l with
  | nil => intro i _ _ _ _ x hx; simp [facesL] at hx
  | cons f r ih =>
    intro i h0 h1 h hb
    rw [List.length_cons] at h1
    exact byt_append (byt_faceL h0 (by omega) (h f (by simp)) (hb f (by simp))) (ih (i + 1) (by omega) (by omega) (fun g hg => h g (by simp [hg])) (fun g hg => hb g (by simp [hg])))
theorem byt_confL {c : Cf} (h : COk c) (hb : ∀ f ∈ c.fs, BB f.ex) : Byt (confL c) := by
  have hl := confL_le h
  rw [confL_length] at hl
  have h2 := h.head
  have h3 := h.len
  refine byt_append ?_ (byt_facesL _ 0 (by omega) (by omega) h.fs hb)
  intro x hx
  simp only [confH, wrd, List.cons_append, List.nil_append, List.mem_cons, List.not_mem_nil, or_false] at hx
  omega
end Go.Proofs.Ytonheibhbilhhaa.desc
