/- gadget: a sheet in memory; what highestText and isRight answer. -/
import Derived.Test.YtebaepkghbihkaaGadM
import Derived.Test.YtebaepkghbihkaaQuietM
import Derived.Laws.Cover1
namespace Go.Proofs.Ytebaepkghbihkaa.gadget
open Go.RowKit Go.PlainAid Go.Proofs.Ytebaepkghbihkaa.lane Go.Proofs.Ytebaepkghbihkaa.desc
open Go.Proofs.Ytebaepkghbihkaa.setup (inS inS_iff)
open Go.Proofs.Ytebaepkghbihkaa.utf (werr)
set_option linter.unusedVariables false
set_option linter.unusedSimpArgs false

/-- a sheet's value, and its cells -/
abbrev shV (d : Dv) (c : Cf) (v tv : Value) : Value := .agg #[.int .i64 d.us, .int .i64 d.cl, .int .i64 d.su, .int .i64 d.pr, .int .i64 d.m0, .int .i64 d.ve, .int .i64 d.pd, .int .i64 d.re, .int .i64 d.ma, .int .i64 d.nm, .int .i64 d.se, .int .i64 d.cf, .int .i64 c.va, .int .i64 c.na, .int .i64 c.atr, .int .i64 c.po, v, tv]
abbrev shO (d : Dv) (c : Cf) (v tv : Value) : Obj := .cells #[.int .i64 d.us, .int .i64 d.cl, .int .i64 d.su, .int .i64 d.pr, .int .i64 d.m0, .int .i64 d.ve, .int .i64 d.pd, .int .i64 d.re, .int .i64 d.ma, .int .i64 d.nm, .int .i64 d.se, .int .i64 d.cf, .int .i64 c.va, .int .i64 c.na, .int .i64 c.atr, .int .i64 c.po, v, tv] 29
structure ShC (w : World) (B : Nat) (d : Dv) (c : Cf) (v tv : Value) : Prop where
  size : B < w.heap.size
  c0 : w.cell? ⟨B, 0, none⟩ = some (.int .i64 d.us)
  c1 : w.cell? ⟨B, 1, none⟩ = some (.int .i64 d.cl)
  c2 : w.cell? ⟨B, 2, none⟩ = some (.int .i64 d.su)
  c3 : w.cell? ⟨B, 3, none⟩ = some (.int .i64 d.pr)
  c4 : w.cell? ⟨B, 4, none⟩ = some (.int .i64 d.m0)
  c5 : w.cell? ⟨B, 5, none⟩ = some (.int .i64 d.ve)
  c6 : w.cell? ⟨B, 6, none⟩ = some (.int .i64 d.pd)
  c7 : w.cell? ⟨B, 7, none⟩ = some (.int .i64 d.re)
  c8 : w.cell? ⟨B, 8, none⟩ = some (.int .i64 d.ma)
  c9 : w.cell? ⟨B, 9, none⟩ = some (.int .i64 d.nm)
  c10 : w.cell? ⟨B, 10, none⟩ = some (.int .i64 d.se)
  c11 : w.cell? ⟨B, 11, none⟩ = some (.int .i64 d.cf)
  c12 : w.cell? ⟨B, 12, none⟩ = some (.int .i64 c.va)
  c13 : w.cell? ⟨B, 13, none⟩ = some (.int .i64 c.na)
  c14 : w.cell? ⟨B, 14, none⟩ = some (.int .i64 c.atr)
  c15 : w.cell? ⟨B, 15, none⟩ = some (.int .i64 c.po)
  c16 : w.cell? ⟨B, 16, none⟩ = some v
  c17 : w.cell? ⟨B, 17, none⟩ = some tv
theorem ShC.of {w : World} {B : Nat} {d : Dv} {c : Cf} {v tv : Value} (h : w.heap[B]? = some (shO d c v tv)) : ShC w B d c v tv := by
  refine ⟨(Array.getElem?_eq_some_iff.1 h).1, ?_, ?_, ?_, ?_, ?_, ?_, ?_, ?_, ?_, ?_, ?_, ?_, ?_, ?_, ?_, ?_, ?_, ?_⟩ <;> (rw [cell_of_row w B _ _ _ (0, 0) h]; rfl)
theorem ShC.named (w : World) (d : Dv) (c : Cf) (v tv : Value) : ∃ w0, w.alloc (shO d c v tv) = w0 ∧ w0.heap[w.heap.size]? = some (shO d c v tv) ∧ Below w.heap.size w w0 := ⟨_, rfl, (MapKept.heap_alloc w _).1, balloc _ _⟩
theorem keep {w w' : World} {R : Nat} {o : Obj} (h : w.heap[R]? = some o) (hb : Below w.heap.size w w') : w'.heap[R]? = some o := (hb.block R (Array.getElem?_eq_some_iff.1 h).1).trans h
/-- what a sheet's lists hold -/
structure Shr (w : World) (c : Cf) (L : FL) (v : Value) (T : List (List Int)) (tv : Value) : Prop where
  rc : Rc w v c L
  tx : Rts w tv T
  bb : BB T
  sz : ∀ t ∈ T, t.length ≤ maxLen
theorem Shr.below {w u : World} {c : Cf} {L : FL} {v : Value} {T : List (List Int)} {tv : Value} (h : Shr w c L v T tv) (hb : Below w.heap.size w u) : Shr u c L v T tv := ⟨h.rc.below hb, h.tx.below hb, h.bb, h.sz⟩
theorem Rts.at' {w : World} {a : Option Addr} {n c : Nat} {ps : List (List Int)} (h : Rts w (.slice a n c) ps) : ∀ j p, ps[j]? = some p → ∃ g off, a = some ⟨g, off, none⟩ ∧ w.cell? ⟨g, off + j, none⟩ = some (.string (strOfNums p)) := by
  obtain ⟨a', c', e, _, _, h4⟩ := h.cell
  injection e with e1 e2 e3
  subst e1
  exact h4
theorem Rns.at' {w : World} {a : Option Addr} {n c : Nat} {es : List En} (h : Rns w (.slice a n c) es) : ∀ j e, es[j]? = some e → ∃ g off, a = some ⟨g, off, none⟩ ∧ w.cell? ⟨g, off + j * 5, none⟩ = some (.int .i64 e.ad) ∧ w.cell? ⟨g, off + j * 5 + 1, none⟩ = some (.bool e.inw) ∧ w.cell? ⟨g, off + j * 5 + 2, none⟩ = some (.int .i64 e.kd) ∧ w.cell? ⟨g, off + j * 5 + 3, none⟩ = some (.int .i64 e.mx) ∧ w.cell? ⟨g, off + j * 5 + 4, none⟩ = some (.int .i64 e.iv) := by
  obtain ⟨a', c', e, _, _, h4⟩ := h.cell
  injection e with e1 e2 e3
  subst e1
  exact h4
theorem Rfs.at' {w : World} {a : Option Addr} {n c : Nat} {L : FL} (h : Rfs w (.slice a n c) L) : ∀ j q, L[j]? = some q → ∃ g off, a = some ⟨g, off, none⟩ ∧ w.cell? ⟨g, off + j * 6, none⟩ = some (.int .i64 q.1.cl) ∧ w.cell? ⟨g, off + j * 6 + 1, none⟩ = some (.int .i64 q.1.su) ∧ w.cell? ⟨g, off + j * 6 + 2, none⟩ = some (.int .i64 q.1.pr) ∧ w.cell? ⟨g, off + j * 6 + 3, none⟩ = some (.int .i64 q.1.nm) ∧ w.cell? ⟨g, off + j * 6 + 4, none⟩ = some q.2.1 ∧ w.cell? ⟨g, off + j * 6 + 5, none⟩ = some q.2.2 := by
  obtain ⟨a', c', e, _, _, h4⟩ := h.cell
  injection e with e1 e2 e3
  subst e1
  exact h4
theorem ret_i {a b : Int} (h : a = b) : Ending.returned (.int .i64 a) = .returned (.int .i64 b) := by rw [h]
theorem ret_b {a b : Bool} (h : a = b) : Ending.returned (.bool a) = .returned (.bool b) := by rw [h]

/-- the greater one -/
def mx (x y : Int) : Int := if y > x then y else x
def hiN (d : Dv) (c : Cf) : Int := (c.fs.map Fc.nm).foldl mx (mx (mx (mx d.ma d.nm) d.se) c.na)
theorem mx_lt (n x y : Int) : n < mx x y ↔ n < x ∨ n < y := by unfold mx; split <;> omega
theorem fold_lt (n : Int) : ∀ (l : List Int) (m : Int), n < l.foldl mx m ↔ n < m ∨ abv n l = true := by
  intro l
  induction l with
  | nil => intro m; simp [abv]
  | cons x r ih =>
    intro m
    rw [List.foldl_cons, ih, mx_lt]
    simp only [abv, List.any_cons, Bool.or_eq_true, decide_eq_true_eq, or_assoc]
theorem hiN_lt (d : Dv) (c : Cf) (n : Int) : n < hiN d c ↔ abv n (nms d c) = true := by
  unfold hiN nms
  rw [fold_lt, mx_lt, mx_lt, mx_lt]
  simp only [abv, List.any_append, List.any_cons, List.any_nil, Bool.or_false, Bool.or_eq_true, decide_eq_true_eq, or_assoc]
theorem max4 (w : World) (a b c d : Int) : (Builtin.max_ #[3, 3, 3, 3] 3 #[.int .i64 a, .int .i64 b, .int .i64 c, .int .i64 d]).run Try.prog w = .ok (.int .i64 (mx (mx (mx a b) c) d)) w := by
  simp [Builtin.max_, Builtin.max2, mx]
theorem max2 (w : World) (a b : Int) : (Builtin.max_ #[3, 3] 3 #[.int .i64 a, .int .i64 b]).run Try.prog w = .ok (.int .i64 (mx a b)) w := by
  simp [Builtin.max_, Builtin.max2, mx]
set_option maxRecDepth 100000 in
set_option maxHeartbeats 4000000 in
theorem highestText_any (d : Dv) (c : Cf) (L : FL) (v tv : Value) (w : World) (h : Rc w v c L) :
    Calls Try.prog 26 #[shV d c v tv] w fun e w' => e = .returned (.int .i64 (hiN d c)) ∧ Below w.heap.size w w' := by
  obtain ⟨w0, hw0, hS, hb0⟩ := ShC.named w d c v tv
  obtain ⟨a, n, cap, rfl⟩ : ∃ a n c, v = .slice a n c := by obtain ⟨a, c, h, _⟩ := h.fs.row; exact ⟨_, _, _, h⟩
  have hn : n = L.length := by obtain ⟨a', c', e, _⟩ := h.fs.row; injection e
  have hcm : n ≤ cap ∧ cap ≤ maxLen := by obtain ⟨a', c', e, h1, h2, _⟩ := h.fs.row; injection e with e1 e2 e3; subst e2 e3; exact ⟨h1, h2⟩
  have HC : Hid (∀ u, Below w0.heap.size w0 u → ∀ j q, L[j]? = some q → ∃ g off, a = some ⟨g, off, none⟩ ∧ u.cell? ⟨g, off + j * 6, none⟩ = some (.int .i64 q.1.cl) ∧ u.cell? ⟨g, off + j * 6 + 1, none⟩ = some (.int .i64 q.1.su) ∧ u.cell? ⟨g, off + j * 6 + 2, none⟩ = some (.int .i64 q.1.pr) ∧ u.cell? ⟨g, off + j * 6 + 3, none⟩ = some (.int .i64 q.1.nm) ∧ u.cell? ⟨g, off + j * 6 + 4, none⟩ = some q.2.1 ∧ u.cell? ⟨g, off + j * 6 + 5, none⟩ = some q.2.2) :=
    fun u hu => Rfs.at' (h.fs.below (bsq hb0 hu))
  have HE : Hid (c.fs.map Fc.nm = L.map fun q => q.1.nm) := by show _ = _; rw [← h.eq, List.map_map]; rfl
  have HB0 : Hid (Below w.heap.size w w0) := hb0
  have HN : Hid (n = L.length) := hn
  obtain ⟨_, _, _, _, _, _, _, _, _, c8, c9, c10, _, _, c13, _, _, c16, _⟩ := ShC.of hS
  have hmx := max4
  have hm2 := max2
  have HH : Hid (((L.drop 0).map fun q => q.1.nm).foldl mx (mx (mx (mx d.ma d.nm) d.se) c.na) = hiN d c) := by show _ = _; unfold hiN; rw [HE.out]; rfl
  obtain ⟨hnc, hcm⟩ := hcm
  unfold maxLen at hcm
  have HF : Hid (∀ q ∈ L, (∃ a n c, q.2.1 = .slice a n c) ∧ ∃ a n c, q.2.2 = .slice a n c) := fun q hq => by
    obtain ⟨a1, c1, e1, _⟩ := (h.fs.all q hq).ex
    obtain ⟨a2, c2, e2, _⟩ := (h.fs.all q hq).en
    exact ⟨⟨_, _, _, e1⟩, ⟨_, _, _, e2⟩⟩
  generalize hiN d c = R at *
  clear h hb0 hn HE hS
  go_enter Try.func26, Try.ntmps26
  go_wp2
  clear c8 c9 c10 c13 c16 hmx
  go_loopw [3, 23] (fun mv i wr => ∃ (k : Nat) (m : Int), k ≤ n ∧ mv = .int .i64 m ∧ i = .int .i64 (k : Int) ∧ Below w0.heap.size w0 wr ∧ Hid (((L.drop k).map fun q => q.1.nm).foldl mx m = R)) (fun _ i _ => n - (intOf i).toNat)
  case atStart => exact ⟨0, _, Nat.zero_le _, rfl, rfl, Below.refl _ _, HH.out⟩
  case round =>
    obtain ⟨k, m, hk, rfl, rfl, hbr, HR⟩ := hrel
    by_cases hlt : k < n
    · have hk1 : k < L.length := by have := HN.out; omega
      obtain ⟨q, hq⟩ : ∃ q, L[k]? = some q := ⟨L[k], List.getElem?_eq_getElem hk1⟩
      obtain ⟨g, off, rfl, k0, k1, k2, k3, k4, k5⟩ := HC.out wr hbr k q hq
      obtain ⟨⟨ve1, ve2, ve3, hve⟩, ⟨vd1, vd2, vd3, hvd⟩⟩ := HF.out q (List.mem_of_getElem? hq)
      have hR := HR.out
      rw [List.drop_eq_getElem_cons hk1, show L[k] = q by rw [List.getElem?_eq_getElem hk1] at hq; injection hq, List.map_cons, List.foldl_cons] at hR
      have HH2 : Hid (((L.drop (k + 1)).map fun q => q.1.nm).foldl mx (mx m q.1.nm) = R) := hR
      obtain ⟨w3, hw3⟩ : ∃ w3, wr.alloc (.cells #[.int .i64 q.1.cl, .int .i64 q.1.su, .int .i64 q.1.pr, .int .i64 q.1.nm, q.2.1, q.2.2] 64) = w3 := ⟨_, rfl⟩
      have hb3 : Below wr.heap.size wr w3 := by rw [← hw3]; exact balloc _ _
      have HB3 : Hid (Below w0.heap.size w0 w3) := bsq hbr hb3
      obtain ⟨e0, e1, e2, e3, e4, e5⟩ := box6 (show w3.heap[wr.heap.size]? = some (.cells #[.int .i64 q.1.cl, .int .i64 q.1.su, .int .i64 q.1.pr, .int .i64 q.1.nm, q.2.1, q.2.2] 64) by rw [← hw3]; exact (MapKept.heap_alloc wr _).1)
      obtain ⟨⟨cl, su, pr, nm, ex, en⟩, ve, vd⟩ := q
      simp only at *
      subst hve hvd
      clear HC HF HR hR hq hbr hb3 e0 e1 e2 e4 e5
      go_wp2
      go_roundw
      case rel => exact ⟨k + 1, mx m nm, by omega, rfl, by go_num, HB3.out, HH2⟩
      case measure => simp [intOf]; omega
    · have hR := HR.out
      rw [List.drop_eq_nil_of_le (by have := HN.out; omega)] at hR
      have HH2 : Hid (m = R) := hR
      have HB3 : Hid (Below w0.heap.size w0 wr) := hbr
      clear HC HF HR hR hbr
      go_wp2
      go_ret
      exact ⟨ret_i HH2.out, bsq HB0.out HB3.out⟩
theorem isAddr_any (n : Int) (w : World) : Calls Try.prog 60 #[.int .i64 n] w fun e w' => e = .returned (.bool (inS 1 127 n)) ∧ w = w' := by
  unfold inS
  by_cases h : 1 ≤ n
  · rw [decide_eq_true h, Bool.true_and]
    go_enter Try.func60, Try.ntmps60
    go_wp2
    go_ret
    exact ⟨rfl, rfl⟩
  · rw [decide_eq_false h, Bool.false_and]
    go_enter Try.func60, Try.ntmps60
    go_wp2
    go_ret
    exact ⟨rfl, rfl⟩
/-- a gadget's value -/
abbrev gdV (s a h : Int) : Value := .agg #[.int .i64 s, .int .i64 a, .int .i64 h]
abbrev gdO (s a h : Int) : Obj := .cells #[.int .i64 s, .int .i64 a, .int .i64 h] 34
set_option maxHeartbeats 2000000 in
theorem isRight_any (s a h : Int) (w : World) : Calls Try.prog 30 #[gdV s a h] w fun e w' => e = .returned (.bool (gR s a h)) ∧ Below w.heap.size w w' := by
  have HA : Hid (∀ u : World, Calls Try.prog 60 #[.int .i64 a] u fun e w' => e = .returned (.bool (inS 1 127 a)) ∧ u = w') := isAddr_any a
  have HB : Hid (Below w.heap.size w (w.alloc (gdO s a h))) := balloc _ _
  by_cases h0 : s = 0
  · subst h0
    have HR : Hid ((a == 0 && h == 0) = gR 0 a h) := by show _ = _; rw [Bool.eq_iff_iff, gR_iff]; simp
    generalize gR 0 a h = r at *
    by_cases a0 : a = 0
    · have e1 : (a == 0) = true := by simpa using a0
      rw [e1, Bool.true_and] at HR
      clear a0
      go_enter Try.func30, Try.ntmps30
      go_wp2
      go_ret
      exact ⟨ret_b HR.out, HB.out⟩
    · have e1 : (a == 0) = false := by simpa using a0
      rw [e1, Bool.false_and] at HR
      clear a0
      go_enter Try.func30, Try.ntmps30
      go_wp2
      go_ret
      exact ⟨ret_b HR.out, HB.out⟩
  have n0 : (s == 0) = false := by simpa using h0
  by_cases h1 : s = 1
  · subst h1
    have HR : Hid ((inS 1 127 a && h == 0) = gR 1 a h) := by show _ = _; rw [Bool.eq_iff_iff, gR_iff]; simp [inS_iff]; omega
    generalize gR 1 a h = r at *
    generalize inS 1 127 a = x at *
    clear h0 n0
    cases x
    · rw [Bool.false_and] at HR
      go_enter Try.func30, Try.ntmps30
      go_wp2_with fail
      refine (HA.out _).mono ?_
      rintro e u ⟨rfl, rfl⟩
      go_wp2
      go_ret
      exact ⟨ret_b HR.out, HB.out⟩
    · rw [Bool.true_and] at HR
      go_enter Try.func30, Try.ntmps30
      go_wp2_with fail
      refine (HA.out _).mono ?_
      rintro e u ⟨rfl, rfl⟩
      go_wp2
      go_ret
      exact ⟨ret_b HR.out, HB.out⟩
  have n1 : (s == 1) = false := by simpa using h1
  by_cases h2 : s = 2
  · subst h2
    have HR : Hid ((inS 1 127 a && (decide (0 ≤ h) && decide (h ≤ 4294967295))) = gR 2 a h) := by show _ = _; rw [Bool.eq_iff_iff, gR_iff]; simp [inS_iff]; omega
    generalize gR 2 a h = r at *
    generalize inS 1 127 a = x at *
    clear h0 n0 h1 n1
    cases x
    · rw [Bool.false_and] at HR
      go_enter Try.func30, Try.ntmps30
      go_wp2_with fail
      refine (HA.out _).mono ?_
      rintro e u ⟨rfl, rfl⟩
      go_wp2
      go_ret
      exact ⟨ret_b HR.out, HB.out⟩
    · rw [Bool.true_and] at HR
      by_cases p0 : 0 ≤ h
      · rw [decide_eq_true p0, Bool.true_and] at HR
        go_enter Try.func30, Try.ntmps30
        go_wp2_with fail
        refine (HA.out _).mono ?_
        rintro e u ⟨rfl, rfl⟩
        go_wp2
        go_ret
        exact ⟨ret_b HR.out, HB.out⟩
      · rw [decide_eq_false p0, Bool.false_and] at HR
        go_enter Try.func30, Try.ntmps30
        go_wp2_with fail
        refine (HA.out _).mono ?_
        rintro e u ⟨rfl, rfl⟩
        go_wp2
        go_ret
        exact ⟨ret_b HR.out, HB.out⟩
  · have n2 : (s == 2) = false := by simpa using h2
    have HR : Hid (false = gR s a h) := by show _ = _; rw [Bool.eq_iff_iff, gR_iff]; simp; omega
    generalize gR s a h = r at *
    clear h0 h1 h2
    go_enter Try.func30, Try.ntmps30
    go_wp2
    go_ret
    exact ⟨ret_b HR.out, HB.out⟩
end Go.Proofs.Ytebaepkghbihkaa.gadget
