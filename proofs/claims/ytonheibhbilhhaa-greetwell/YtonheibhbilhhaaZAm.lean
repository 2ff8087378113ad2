/- gadget: what an answer's methods do: address, configure, configured; what numberOf and hasEnd answer. -/
import Derived.Test.YtonheibhbilhhaaZAk
import Derived.Deep.RegionWith
import Derived.Laws.Strings2
namespace Go.Proofs.Ytonheibhbilhhaa.gadget
open Go.RowKit Go.PlainAid Go.Proofs.Ytonheibhbilhhaa.lane Go.Proofs.Ytonheibhbilhhaa.desc
open Go.Proofs.Ytonheibhbilhhaa.setup (inS inS_iff)
set_option linter.unusedVariables false
set_option linter.unusedSimpArgs false

/-- an answer's block -/
abbrev anO (s a h : Int) (t : ByteArray) : Obj := .cells #[.int .i64 s, .int .i64 a, .int .i64 h, .string t] 134
theorem an_set {w : World} {p : Nat} {cs cs' : Array Value} {T : TypeId} (k : Nat) (x : Value) (h : w.heap[p]? = some (.cells cs T)) (hk : cs.setIfInBounds k x = cs') : (w.setCell ⟨p, k, none⟩ x).heap[p]? = some (.cells cs' T) := by
  rw [← hk]; exact heap_setCell_same w p k cs T x h
theorem an_box {w : World} {p : Nat} {s a h : Int} {t : ByteArray} (hp : w.heap[p]? = some (anO s a h t)) :
    (p < w.heap.size ∧ w.cell? ⟨p, 0, none⟩ = some (.int .i64 s) ∧ w.cell? ⟨p, 1, none⟩ = some (.int .i64 a) ∧ w.cell? ⟨p, 2, none⟩ = some (.int .i64 h) ∧ w.cell? ⟨p, 3, none⟩ = some (.string t)) ∧
    w.frozen? ⟨p, 0, none⟩ = false ∧ w.frozen? ⟨p, 1, none⟩ = false ∧ w.frozen? ⟨p, 2, none⟩ = false ∧ w.frozen? ⟨p, 3, none⟩ = false := by
  have hf : ∀ i, w.frozen? ⟨p, i, none⟩ = false := fun i => frozen_of_row w p i _ _ hp
  refine ⟨⟨(Array.getElem?_eq_some_iff.1 hp).1, ?_, ?_, ?_, ?_⟩, hf 0, hf 1, hf 2, hf 3⟩ <;> (rw [cell_of_row w p _ _ _ (0, 0) hp]; rfl)
/-- an answer stands so behind a call -/
def AnP (p : Nat) (w : World) (X : Ans) (e : Ending) (w' : World) : Prop := e = .returned (.int .i64 X.e) ∧ Below p w w' ∧ w'.heap[p]? = some (anO X.s X.a X.h X.t)
theorem bset {p : Nat} {w u : World} (h : Below p w u) (k : Nat) (x : Value) : Below p w (u.setCell ⟨p, k, none⟩ x) := h.setCell (Nat.le_refl _) x
set_option maxHeartbeats 1000000 in
theorem address_any (p : Nat) (s a h v : Int) (w : World) (hp : w.heap[p]? = some (anO s a h noT)) (hg : s ≠ 2 → h = 0) :
    Calls Try.prog 102 #[.pointer (some ⟨p, 0, none⟩), .int .i64 v] w (AnP p w (if s = 2 then bad s a h 8 else if v = 0 then ⟨0, 0, 0, noT, 0⟩ else ⟨1, v, 0, noT, 0⟩)) := by
  obtain ⟨⟨hz, c0, c1, c2, c3⟩, f0, f1, f2, f3⟩ := an_box hp
  have HP : Hid (w.heap[p]? = some (anO s a h noT)) := hp
  clear hp
  by_cases h2 : s = 2
  · subst h2
    rw [if_pos rfl]
    clear hg
    go_enter Try.func102, Try.ntmps102
    go_wp2
    go_ret
    exact ⟨rfl, Below.refl _ _, HP.out⟩
  · rw [if_neg h2]
    have e2 : (s == 2) = false := by simpa using h2
    have e0 := hg h2
    subst e0
    clear hg h2
    by_cases hv : v = 0
    · subst hv
      rw [if_pos rfl]
      go_enter Try.func102, Try.ntmps102
      go_wp2
      go_ret
      exact ⟨rfl, bset (bset (bset (Below.refl _ _) _ _) _ _) _ _, an_set 0 _ (an_set 0 _ (an_set 1 _ HP.out rfl) rfl) rfl⟩
    · rw [if_neg hv]
      have e3 : (v == 0) = false := by simpa using hv
      clear hv
      go_enter Try.func102, Try.ntmps102
      go_wp2
      go_ret
      exact ⟨rfl, bset (bset (Below.refl _ _) _ _) _ _, an_set 0 _ (an_set 1 _ HP.out rfl) rfl⟩
theorem cf_named (w : World) (c : Cf) (v : Value) : ∃ w0, w.alloc (.cells #[.int .i64 c.va, .int .i64 c.na, .int .i64 c.atr, .int .i64 c.po, v] 26) = w0 ∧ w0.heap[w.heap.size]? = some (.cells #[.int .i64 c.va, .int .i64 c.na, .int .i64 c.atr, .int .i64 c.po, v] 26) ∧ Below w.heap.size w w0 := ⟨_, rfl, (MapKept.heap_alloc w _).1, balloc _ _⟩
set_option maxHeartbeats 2000000 in
theorem configure_any (p : Nat) (s a h v : Int) (c : Cf) (fa : Option Addr) (fn fc : Nat) (w : World) (hp : w.heap[p]? = some (anO s a h noT)) :
    Calls Try.prog 103 #[.pointer (some ⟨p, 0, none⟩), .int .i64 v, cfV c (.slice fa fn fc)] w (AnP p w (if s = 0 then bad s a h 8 else if v = 0 then ⟨1, a, 0, noT, 0⟩ else if v = c.va then ⟨2, a, 0, noT, 0⟩ else bad s a h 8)) := by
  obtain ⟨w0, hw0, hc0, hb0⟩ := cf_named w c (.slice fa fn fc)
  have hpw : p < w.heap.size := (Array.getElem?_eq_some_iff.1 hp).1
  have hp0 := keep hp hb0
  obtain ⟨d0, _, _, _, _⟩ := box5 hc0
  obtain ⟨⟨hz, c0, c1, c2, c3⟩, f0, f1, f2, f3⟩ := an_box hp0
  have HP : Hid (w0.heap[p]? = some (anO s a h noT)) := hp0
  have HB : Hid (Below p w w0) := hb0.mono (by omega)
  clear hp hp0 hb0 hc0
  by_cases h2 : s = 0
  · subst h2
    rw [if_pos rfl]
    go_enter Try.func103, Try.ntmps103
    go_wp2
    go_ret
    exact ⟨rfl, HB.out, HP.out⟩
  rw [if_neg h2]
  have e2 : (s == 0) = false := by simpa using h2
  clear h2
  by_cases hv : v = 0
  · subst hv
    rw [if_pos rfl]
    go_enter Try.func103, Try.ntmps103
    go_wp2
    go_ret
    exact ⟨rfl, bset (bset HB.out _ _) _ _, an_set 2 _ (an_set 0 _ HP.out rfl) rfl⟩
  rw [if_neg hv]
  have e3 : (v == 0) = false := by simpa using hv
  clear hv
  by_cases hc : v = c.va
  · rw [if_pos hc]
    have e4 : (v == c.va) = true := by simpa using hc
    clear hc
    go_enter Try.func103, Try.ntmps103
    go_wp2
    go_ret
    exact ⟨rfl, bset (bset HB.out _ _) _ _, an_set 2 _ (an_set 0 _ HP.out rfl) rfl⟩
  · rw [if_neg hc]
    have e4 : (v == c.va) = false := by simpa using hc
    clear hc
    go_enter Try.func103, Try.ntmps103
    go_wp2
    go_ret
    exact ⟨rfl, HB.out, HP.out⟩
theorem zero_one : (⟨#[0]⟩ : ByteArray) = strOfNums [0] := rfl
set_option maxHeartbeats 2000000 in
theorem configured_any (p : Nat) (s a h : Int) (c : Cf) (fa : Option Addr) (fn fc : Nat) (w : World) (hp : w.heap[p]? = some (anO s a h noT)) (hs : s = 0 ∨ s = 1 ∨ s = 2) (hc : 0 ≤ c.va ∧ c.va ≤ 255) :
    Calls Try.prog 104 #[.pointer (some ⟨p, 0, none⟩), cfV c (.slice fa fn fc)] w (AnP p w (if s = 0 then bad s a h 8 else if s = 1 then ⟨s, a, h, strOfNums [0], 0⟩ else ⟨s, a, h, strOfNums [c.va], 0⟩)) := by
  obtain ⟨w0, hw0, hc0, hb0⟩ := cf_named w c (.slice fa fn fc)
  have hpw : p < w.heap.size := (Array.getElem?_eq_some_iff.1 hp).1
  have hp0 := keep hp hb0
  obtain ⟨d0, _, _, _, _⟩ := box5 hc0
  have HB : Hid (Below p w w0) := hb0.mono (by omega)
  have hbsz : w.heap.size ≤ w0.heap.size := hb0.size
  rcases hs with rfl | rfl | rfl
  · rw [if_pos rfl]
    obtain ⟨⟨hz, c0, c1, c2, c3⟩, f0, f1, f2, f3⟩ := an_box hp0
    have HP : Hid (w0.heap[p]? = some (anO 0 a h noT)) := hp0
    clear hp hp0 hb0 hc0 hbsz
    go_enter Try.func104, Try.ntmps104
    go_wp2
    go_ret
    exact ⟨rfl, HB.out, HP.out⟩
  · rw [if_neg (by omega), if_pos rfl]
    obtain ⟨⟨hz, c0, c1, c2, c3⟩, f0, f1, f2, f3⟩ := an_box hp0
    have HP : Hid (w0.heap[p]? = some (anO 1 a h noT)) := hp0
    clear hp hp0 hb0 hc0 hbsz
    go_enter Try.func104, Try.ntmps104
    go_wp2
    go_ret
    exact ⟨rfl, bset HB.out _ _, an_set 3 _ HP.out rfl⟩
  · rw [if_neg (by omega), if_neg (by omega)]
    have hcv := conv_new w0 [c.va]
    have hva : c.va % 256 = c.va := by omega
    obtain ⟨w1, hw1⟩ : ∃ w1, w0.alloc (.cells (([c.va] : List Int).map (Value.int .u8)).toArray 5) = w1 := ⟨_, rfl⟩
    have hb1 : Below w0.heap.size w0 w1 := by rw [← hw1]; exact balloc _ _
    have hp1 := keep hp0 hb1
    obtain ⟨⟨hz0, x0, _, _, _⟩, _, _, _, _⟩ := an_box hp0
    obtain ⟨⟨hz, c0, c1, c2, c3⟩, f0, f1, f2, f3⟩ := an_box hp1
    have HP : Hid (w1.heap[p]? = some (anO 2 a h noT)) := hp1
    have HB1 : Hid (Below p w w1) := HB.out.trans (hb1.mono (by omega))
    rw [hw1] at hcv
    simp at hcv hw1
    generalize strOfNums [c.va] = V at *
    clear hp hp0 hb0 hc0 hb1 hp1 hbsz
    go_enter Try.func104, Try.ntmps104
    go_wp2
    go_ret
    exact ⟨rfl, bset HB1.out _ _, an_set 3 _ HP.out rfl⟩
theorem numberOf_any (e : En) (he : endOk e = true) (w : World) : Calls Try.prog 127 #[evV e] w fun r w' => r = .returned (.int .i64 (numE e)) ∧ Below w.heap.size w w' := by
  obtain ⟨⟨a1, a2⟩, _⟩ := (endOk_iff e).1 he
  obtain ⟨ad, inw, kd, mx, iv⟩ := e
  unfold numE
  simp only at *
  cases inw
  · rw [if_neg (by decide)]
    go_enter Try.func127, Try.ntmps127
    go_wp2
    go_ret
    exact ⟨rfl, balloc _ _⟩
  · rw [if_pos rfl]
    go_enter Try.func127, Try.ntmps127
    go_wp2
    go_ret
    exact ⟨rfl, balloc _ _⟩
/-- is there an end of that number? -/
def hasN (i : Int) (es : List En) : Bool := es.any fun e => numE e == i
theorem hasN_at {i : Int} {es : List En} {k : Nat} {e : En} (h : es[k]? = some e) : hasN i (es.drop k) = (numE e == i || hasN i (es.drop (k + 1))) := by
  obtain ⟨hk, he⟩ := List.getElem?_eq_some_iff.1 h
  rw [List.drop_eq_getElem_cons hk, he]
  rfl
theorem hasF_at {i : Int} {L : FL} {k : Nat} {q : Fc × Value × Value} (h : L[k]? = some q) : hasF i ((L.drop k).map Prod.fst) = (hasN i q.1.en || hasF i ((L.drop (k + 1)).map Prod.fst)) := by
  obtain ⟨hk, he⟩ := List.getElem?_eq_some_iff.1 h
  rw [List.drop_eq_getElem_cons hk, he, List.map_cons]
  rfl
set_option maxRecDepth 100000 in
set_option maxHeartbeats 8000000 in
theorem hasEnd_any (c : Cf) (L : FL) (v : Value) (i : Int) (w : World) (h : Rc w v c L) (hok : chkC c = 0) :
    Calls Try.prog 118 #[cfV c v, .int .i64 i] w fun e w' => e = .returned (.bool (hasE c i)) ∧ Below w.heap.size w w' := by
  obtain ⟨w0, hw0, hc0, hb0⟩ := cf_named w c v
  have HB0 : Hid (Below w.heap.size w w0) := hb0
  obtain ⟨a, n, cap, rfl⟩ : ∃ a n c, v = .slice a n c := by obtain ⟨a, c, h, _⟩ := h.fs.row; exact ⟨_, _, _, h⟩
  unfold hasE
  by_cases i0 : i = 0
  · subst i0
    clear h hok hc0 hb0
    simp only [beq_self_eq_true, Bool.true_or]
    go_enter Try.func118, Try.ntmps118
    go_wp2
    go_ret
    exact ⟨rfl, HB0.out⟩
  have n0 : (i == 0) = false := by simpa using i0
  by_cases i1 : i = 128
  · subst i1
    clear h hok hc0 hb0
    simp only [beq_self_eq_true, Bool.or_true, Bool.true_or]
    go_enter Try.func118, Try.ntmps118
    go_wp2
    go_ret
    exact ⟨rfl, HB0.out⟩
  have n1 : (i == 128) = false := by simpa using i1
  rw [n0, n1, Bool.false_or, Bool.false_or]
  clear i0 i1
  obtain ⟨_, _, _, _, c4⟩ := box5 hc0
  obtain ⟨hn, hnc, hcm⟩ : n = L.length ∧ n ≤ cap ∧ cap ≤ maxLen := by obtain ⟨a', c', e, h1, h2, _⟩ := h.fs.row; injection e with e1 e2 e3; subst e2 e3; exact ⟨rfl, h1, h2⟩
  have HC : Hid (∀ u, Below w0.heap.size w0 u → ∀ j q, L[j]? = some q → ∃ g off, a = some ⟨g, off, none⟩ ∧ u.cell? ⟨g, off + j * 6, none⟩ = some (.int .i64 q.1.cl) ∧ u.cell? ⟨g, off + j * 6 + 1, none⟩ = some (.int .i64 q.1.su) ∧ u.cell? ⟨g, off + j * 6 + 2, none⟩ = some (.int .i64 q.1.pr) ∧ u.cell? ⟨g, off + j * 6 + 3, none⟩ = some (.int .i64 q.1.nm) ∧ u.cell? ⟨g, off + j * 6 + 4, none⟩ = some q.2.1 ∧ u.cell? ⟨g, off + j * 6 + 5, none⟩ = some q.2.2) :=
    fun u hu => Rfs.at' (h.fs.below (bsq hb0 hu))
  have HRf : Hid (∀ u, Below w0.heap.size w0 u → ∀ q ∈ L, Rf u q) := fun u hu q hq => (h.fs.all q hq).below (bsq hb0 hu)
  have HOK : Hid (∀ q ∈ L, ∀ e ∈ q.1.en, endOk e = true) := fun q hq => ((chkC_ok hok).fs q.1 (by rw [← h.eq]; exact List.mem_map.2 ⟨q, hq, rfl⟩)).en
  have HN : Hid (n = L.length) := hn
  have HH : Hid (hasF i ((L.drop 0).map Prod.fst) = hasF i c.fs) := by show _ = _; rw [List.drop_zero, h.eq]
  generalize hasF i c.fs = R at *
  unfold maxLen at hcm
  clear h hok hn hc0 hb0
  go_enter Try.func118, Try.ntmps118
  go_wp2
  clear c4
  go_loopw [18] (fun iv wr => ∃ k : Nat, k ≤ n ∧ iv = .int .i64 (k : Int) ∧ Below w0.heap.size w0 wr ∧ Hid (hasF i ((L.drop k).map Prod.fst) = R)) (fun iv _ => n - (intOf iv).toNat)
  case atStart => exact ⟨0, Nat.zero_le _, rfl, Below.refl _ _, HH.out⟩
  case round =>
    obtain ⟨k, hk, rfl, hbr, HR⟩ := hrel
    by_cases hlt : ¬ k < n
    · have hR := HR.out
      rw [List.drop_eq_nil_of_le (by have := HN.out; omega)] at hR
      have HR2 : Hid (false = R) := hR
      have HB1 : Hid (Below w0.heap.size w0 wr) := hbr
      clear HC HRf HR hR hbr HH HOK
      go_wp2
      go_ret
      exact ⟨ret_b HR2.out, bsq HB0.out HB1.out⟩
    have hlt : k < n := by omega
    have hk1 : k < L.length := by have := HN.out; omega
    obtain ⟨q, hq⟩ : ∃ q, L[k]? = some q := ⟨L[k], List.getElem?_eq_getElem hk1⟩
    obtain ⟨g, off, rfl, k0, k1, k2, k3, k4, k5⟩ := HC.out wr hbr k q hq
    have hqm := List.mem_of_getElem? hq
    have hR := HR.out
    rw [hasF_at hq] at hR
    obtain ⟨ve1, ve2, ve3, hve⟩ : ∃ a n c, q.2.1 = .slice a n c := by obtain ⟨a, c, h, _⟩ := (HRf.out wr hbr q hqm).ex; exact ⟨_, _, _, h⟩
    obtain ⟨vd1, m, vd3, hvd⟩ : ∃ a n c, q.2.2 = .slice a n c := by obtain ⟨a, c, h, _⟩ := (HRf.out wr hbr q hqm).en; exact ⟨_, _, _, h⟩
    obtain ⟨hm, hmc, hdm⟩ : m = q.1.en.length ∧ m ≤ vd3 ∧ vd3 ≤ maxLen := by
      obtain ⟨a', c', e, h1, h2, _⟩ := (HRf.out wr hbr q hqm).en
      rw [hvd] at e; injection e with e1 e2 e3; subst e2 e3; exact ⟨rfl, h1, h2⟩
    unfold maxLen at hdm
    obtain ⟨w3, hw3⟩ : ∃ w3, wr.alloc (.cells #[.int .i64 q.1.cl, .int .i64 q.1.su, .int .i64 q.1.pr, .int .i64 q.1.nm, q.2.1, q.2.2] 76) = w3 := ⟨_, rfl⟩
    have hb3 : Below wr.heap.size wr w3 := by rw [← hw3]; exact balloc _ _
    have HB3 : Hid (Below w0.heap.size w0 w3) := bsq hbr hb3
    obtain ⟨e0, e1, e2, e3, e4, e5⟩ := box6 (show w3.heap[wr.heap.size]? = some (.cells #[.int .i64 q.1.cl, .int .i64 q.1.su, .int .i64 q.1.pr, .int .i64 q.1.nm, q.2.1, q.2.2] 76) by rw [← hw3]; exact (MapKept.heap_alloc wr _).1)
    have HNs : Hid (∀ u, Below w0.heap.size w0 u → ∀ j e, q.1.en[j]? = some e → ∃ g off, vd1 = some ⟨g, off, none⟩ ∧ u.cell? ⟨g, off + j * 5, none⟩ = some (.int .i64 e.ad) ∧ u.cell? ⟨g, off + j * 5 + 1, none⟩ = some (.bool e.inw) ∧ u.cell? ⟨g, off + j * 5 + 2, none⟩ = some (.int .i64 e.kd) ∧ u.cell? ⟨g, off + j * 5 + 3, none⟩ = some (.int .i64 e.mx) ∧ u.cell? ⟨g, off + j * 5 + 4, none⟩ = some (.int .i64 e.iv)) := fun u hu => by
      have hx := (HRf.out u hu q hqm).en
      rw [hvd] at hx
      exact Rns.at' hx
    have HEo : Hid (∀ e ∈ q.1.en, endOk e = true) := HOK.out q hqm
    obtain ⟨⟨cl, su, pr, nm, ex, en⟩, ve, vd⟩ := q
    simp only at *
    have HM : Hid (m = en.length) := hm
    have HR2 : Hid ((hasN i (en.drop 0) || hasF i ((L.drop (k + 1)).map Prod.fst)) = R) := hR
    subst hve hvd
    clear HC HRf HOK HR hR hq hqm hbr hb3 hm HH e0 e1 e2 e3 e4
    go_wp2
    clear e5 k0 k1 k2 k3 k4 k5
    rename World => wo
    go_loopw [25] (fun iv wr => ∃ j : Nat, j ≤ m ∧ iv = .int .i64 (j : Int) ∧ Below w0.heap.size w0 wr ∧ Hid ((hasN i (en.drop j) || hasF i ((L.drop (k + 1)).map Prod.fst)) = R)) (fun iv _ => m - (intOf iv).toNat)
    case atStart => exact ⟨0, Nat.zero_le _, rfl, HB3.out, HR2.out⟩
    case round =>
      obtain ⟨j, hj, rfl, hbr, HR⟩ := hrel
      by_cases hlt2 : ¬ j < m
      · have hR := HR.out
        rw [List.drop_eq_nil_of_le (by have := HM.out; omega)] at hR
        have HR3 : Hid (hasF i ((L.drop (k + 1)).map Prod.fst) = R) := hR
        have HB1 : Hid (Below w0.heap.size w0 wr) := hbr
        clear HNs HEo HR hR hbr HR2 HB3
        go_wp2
        go_roundw
        case rel => exact ⟨k + 1, by omega, by go_num, HB1.out, HR3⟩
        case measure => simp [intOf]; omega
      have hlt2 : j < m := by omega
      have hj1 : j < en.length := by have := HM.out; omega
      obtain ⟨e, he⟩ : ∃ e, en[j]? = some e := ⟨en[j], List.getElem?_eq_getElem hj1⟩
      obtain ⟨g2, off2, rfl, d0, d1, d2, d3, d4⟩ := HNs.out wr hbr j e he
      have hR := HR.out
      rw [hasN_at he] at hR
      obtain ⟨w2, hw2⟩ : ∃ w2, wr.alloc (.cells #[.int .i64 e.ad, .bool e.inw, .int .i64 e.kd, .int .i64 e.mx, .int .i64 e.iv] 85) = w2 := ⟨_, rfl⟩
      have hb2 : Below wr.heap.size wr w2 := by rw [← hw2]; exact balloc _ _
      obtain ⟨e0, e1, e2, e3, e4⟩ := box5 (show w2.heap[wr.heap.size]? = some (.cells #[.int .i64 e.ad, .bool e.inw, .int .i64 e.kd, .int .i64 e.mx, .int .i64 e.iv] 85) by rw [← hw2]; exact (MapKept.heap_alloc wr _).1)
      have HNO : Hid (Calls Try.prog 127 #[evV e] w2 fun r w' => r = .returned (.int .i64 (numE e)) ∧ Below w2.heap.size w2 w') := numberOf_any e (HEo.out e (List.mem_of_getElem? he)) w2
      have HB2 : Hid (Below w0.heap.size w0 w2) := bsq hbr hb2
      generalize numE e = N at *
      obtain ⟨ad, inw, kd, mx, iv⟩ := e
      simp only at *
      by_cases hN : N = i
      · have q1 : (N == i) = true := by simpa using hN
        rw [q1, Bool.true_or, Bool.true_or] at hR
        have HR3 : Hid (true = R) := hR
        clear HNs HEo HR hR hbr hb2 HR2 HB3 he hN
        go_wp2_with fail
        refine HNO.out.mono ?_
        rintro r u ⟨rfl, hb⟩
        have HBu : Hid (Below w0.heap.size w0 u) := bsq HB2.out hb
        clear hb HNO
        go_wp2
        go_ret
        exact ⟨ret_b HR3.out, bsq HB0.out HBu.out⟩
      · have q1 : (N == i) = false := by simpa using hN
        rw [q1, Bool.false_or] at hR
        have HR3 : Hid ((hasN i (en.drop (j + 1)) || hasF i ((L.drop (k + 1)).map Prod.fst)) = R) := hR
        clear HNs HEo HR hR hbr hb2 HR2 HB3 he hN
        go_wp2_with fail
        refine HNO.out.mono ?_
        rintro r u ⟨rfl, hb⟩
        have HBu : Hid (Below w0.heap.size w0 u) := bsq HB2.out hb
        clear hb HNO
        go_wp2
        go_roundw
        case rel => exact ⟨j + 1, by omega, by go_num, HBu.out, HR3⟩
        case measure => simp [intOf]; omega
end Go.Proofs.Ytonheibhbilhhaa.gadget

/- gadget: what halt, descriptor and describe do. -/
namespace Go.Proofs.Ytonheibhbilhhaa.gadget
open Go.RowKit Go.PlainAid Go.Proofs.Ytonheibhbilhhaa.lane Go.Proofs.Ytonheibhbilhhaa.desc
open Go.Proofs.Ytonheibhbilhhaa.setup (inS inS_iff askc)
open Go.Proofs.Ytonheibhbilhhaa.utf (werr)
set_option linter.unusedVariables false
set_option linter.unusedSimpArgs false

theorem ask_named (w : World) (k v i l : Int) : ∃ w0, w.alloc (askc k v i l) = w0 ∧ w0.heap[w.heap.size]? = some (askc k v i l) ∧ Below w.heap.size w w0 := ⟨_, rfl, (MapKept.heap_alloc w _).1, balloc _ _⟩
theorem ask_box {u : World} {X : Nat} {k v i l : Int} (h : u.heap[X]? = some (askc k v i l)) :
    u.cell? ⟨X, 0, none⟩ = some (.int .i64 k) ∧ u.cell? ⟨X, 1, none⟩ = some (.int .i64 v) ∧ u.cell? ⟨X, 2, none⟩ = some (.int .i64 i) ∧ u.cell? ⟨X, 3, none⟩ = some (.int .i64 l) := by
  refine ⟨?_, ?_, ?_, ?_⟩ <;> (rw [cell_of_row u X _ _ _ (0, 0) h]; rfl)
theorem haltOf_any (i : Int) (hi : (0 ≤ i ∧ i ≤ 15) ∨ (128 ≤ i ∧ i ≤ 143)) (w : World) : Calls Try.prog 119 #[.int .i64 i] w fun e w' => e = .returned (.int .i64 (2 ^ bitE i)) ∧ w = w' := by
  unfold bitE
  by_cases h : i < 128
  · rw [if_pos h]
    have := haltOf_out i.toNat (by omega) w
    rwa [Int.toNat_of_nonneg (by omega)] at this
  · rw [if_neg h]
    have := haltOf_in (i - 128).toNat (by omega) w
    rwa [show (128 : Int) + (((i - 128).toNat : Nat) : Int) = i by omega, show 16 + (i - 128).toNat = (i - 112).toNat by omega] at this
set_option maxRecDepth 100000 in
set_option maxHeartbeats 8000000 in
theorem halt_any (p : Nat) (s a h : Int) (k vv i l : Int) (c : Cf) (L : FL) (v : Value) (w : World) (hp : w.heap[p]? = some (anO s a h noT)) (hc : Rc w v c L) (hok : chkC c = 0) (hk : k = 2 ∨ k = 3) (hi : (0 ≤ i ∧ i ≤ 15) ∨ (128 ≤ i ∧ i ≤ 143)) (hh : s = 2 → 0 ≤ h ∧ h ≤ 4294967295) :
    Calls Try.prog 105 #[.pointer (some ⟨p, 0, none⟩), setup.ask k vv i l, cfV c v] w (AnP p w (if s ≠ 2 then bad s a h 8 else if hasE c i = false then bad s a h 8 else if k = 3 then ⟨s, a, hOn h (bitE i), noT, 0⟩ else ⟨s, a, hOff h (bitE i), noT, 0⟩)) := by
  have hpw : p < w.heap.size := (Array.getElem?_eq_some_iff.1 hp).1
  obtain ⟨wa, hwa, ha0, hba⟩ := ask_named w k vv i l
  obtain ⟨w0, hw0, hc0, hb0⟩ := cf_named wa c v
  have hz1 : w.heap.size ≤ wa.heap.size := hba.size
  have hz2 : wa.heap.size ≤ w0.heap.size := hb0.size
  have hp0 := keep (keep hp hba) hb0
  have HE : Hid (∀ u : World, Below w0.heap.size w0 u → Calls Try.prog 118 #[cfV c v, .int .i64 i] u fun e w' => e = .returned (.bool (hasE c i)) ∧ Below u.heap.size u w') := fun u hu => hasEnd_any c L v i u (hc.below (bsq hba (bsq hb0 hu))) hok
  have HF : Hid (∀ u : World, Calls Try.prog 119 #[.int .i64 i] u fun e w' => e = .returned (.int .i64 (2 ^ bitE i)) ∧ u = w') := haltOf_any i hi
  have hbit : bitE i < 32 := bitE_lt hi
  obtain ⟨fa, fn, fcp, rfl⟩ : ∃ a n c, v = .slice a n c := by obtain ⟨a, c, h, _⟩ := hc.fs.row; exact ⟨_, _, _, h⟩
  have HP : Hid (w0.heap[p]? = some (anO s a h noT)) := hp0
  have HB : Hid (Below p w w0) := (hba.mono (by omega)).trans (hb0.mono (by omega))
  have HA : Hid (w0.heap[w.heap.size]? = some (askc k vv i l)) := keep ha0 hb0
  obtain ⟨⟨hz, c0, c1, c2, c3⟩, f0, f1, f2, f3⟩ := an_box hp0
  obtain ⟨a0, a1, a2, a3⟩ := ask_box HA.out
  obtain ⟨d0, d1, d2, d3, d4⟩ := box5 hc0
  clear hp hc hok hi hba hb0 hp0 hc0 ha0 hz1
  by_cases h2 : s ≠ 2
  · rw [if_pos h2]
    have e2 : (s != 2) = true := by simpa using h2
    clear h2 hh HE HF hbit
    go_enter Try.func105, Try.ntmps105
    go_wp2
    go_ret
    exact ⟨rfl, HB.out, HP.out⟩
  have h2 : s = 2 := by omega
  subst h2
  obtain ⟨hh0, hh1⟩ := hh rfl
  have hor := or_i64 h (bitE i) hbit hh0 hh1
  have hnot := not_i64 h (bitE i) hbit hh0 hh1
  rw [if_neg (by omega)]
  have HE0 := HE.out w0 (Below.refl _ _)
  have HE0 : Hid (Calls Try.prog 118 #[cfV c (.slice fa fn fcp), .int .i64 i] w0 fun e w' => e = .returned (.bool (hasE c i)) ∧ Below w0.heap.size w0 w') := HE0
  clear HE hh hh0 hh1 hbit h2
  generalize hasE c i = x at *
  generalize hOn h (bitE i) = hon at *
  generalize hOff h (bitE i) = hoff at *
  generalize bitE i = bt at *
  generalize (2 : Int) ^ bt = B at *
  cases x
  · rw [if_pos rfl]
    clear HF hor hnot
    go_enter Try.func105, Try.ntmps105
    go_wp2_with fail
    refine HE0.out.mono ?_
    rintro e u ⟨rfl, hb⟩
    have HBu : Hid (Below p w u) := HB.out.trans (hb.mono (by omega))
    have HPu : Hid (u.heap[p]? = some (anO 2 a h noT)) := keep HP.out hb
    clear hb HE0
    go_wp2
    go_ret
    exact ⟨rfl, HBu.out, HPu.out⟩
  rw [if_neg (by decide)]
  rcases hk with rfl | rfl
  · rw [if_neg (by decide)]
    go_enter Try.func105, Try.ntmps105
    go_wp2_with fail
    refine HE0.out.mono ?_
    rintro e u ⟨rfl, hb⟩
    have HBu : Hid (Below p w u) := HB.out.trans (hb.mono (by omega))
    have HPu : Hid (u.heap[p]? = some (anO 2 a h noT)) := keep HP.out hb
    have HAu : Hid (u.heap[w.heap.size]? = some (askc 2 vv i l)) := keep HA.out hb
    clear hb HE0 hz c0 c1 c2 c3 f0 f1 f2 f3 a0 a1 a2 a3 d0 d1 d2 d3 d4
    obtain ⟨⟨hz, c0, c1, c2, c3⟩, f0, f1, f2, f3⟩ := an_box HPu.out
    obtain ⟨a0, a1, a2, a3⟩ := ask_box HAu.out
    go_wp2_with fail
    go_region_with (go_at_call 119; refine (HF.out _).mono ?_; rintro r u2 ⟨rfl, rfl⟩)
    all_goals go_wp2
    all_goals go_ret
    all_goals exact ⟨rfl, (bset HBu.out _ _).drew, an_set 2 _ HPu.out rfl⟩
  · rw [if_pos rfl]
    go_enter Try.func105, Try.ntmps105
    go_wp2_with fail
    refine HE0.out.mono ?_
    rintro e u ⟨rfl, hb⟩
    have HBu : Hid (Below p w u) := HB.out.trans (hb.mono (by omega))
    have HPu : Hid (u.heap[p]? = some (anO 2 a h noT)) := keep HP.out hb
    have HAu : Hid (u.heap[w.heap.size]? = some (askc 3 vv i l)) := keep HA.out hb
    clear hb HE0 hz c0 c1 c2 c3 f0 f1 f2 f3 a0 a1 a2 a3 d0 d1 d2 d3 d4
    obtain ⟨⟨hz, c0, c1, c2, c3⟩, f0, f1, f2, f3⟩ := an_box HPu.out
    obtain ⟨a0, a1, a2, a3⟩ := ask_box HAu.out
    go_wp2_with fail
    go_region_with (go_at_call 119; refine (HF.out _).mono ?_; rintro r u2 ⟨rfl, rfl⟩)
    all_goals go_wp2
    all_goals go_ret
    all_goals exact ⟨rfl, (bset HBu.out _ _).drew, an_set 2 _ HPu.out rfl⟩
end Go.Proofs.Ytonheibhbilhhaa.gadget
