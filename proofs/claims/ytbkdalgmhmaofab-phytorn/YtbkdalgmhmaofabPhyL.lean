/- plugkeep's wired: texts on a wire, with rests between them. -/
import Derived.Test.YtbkdalgmhmaofabPhyK
namespace Go.Proofs.Ytbkdalgmhmaofab.lane
open Go.RowKit Go.PlainAid
set_option linter.unusedVariables false

/-- can it be sent? -/
def goodS (s : ByteArray) : Bool := sizedL s.size == 0
def wireB (r : ByteArray) (l : List ByteArray) : List UInt8 := (l.filter goodS).flatMap fun s => (r ++ sentS s).data.toList
def wantL (l : List ByteArray) : List (List Int × Int) := (l.filter goodS).map fun s => (nums s, 0)
/-- a slice whose cells hold these texts -/
def Sts (w : World) (a : Option Addr) (l : List ByteArray) : Prop := ∀ j x, l[j]? = some x → ∃ g off, a = some ⟨g, off, none⟩ ∧ w.cell? ⟨g, off + j, none⟩ = some (.string x)
theorem Sts.below {w u : World} {a : Option Addr} {l : List ByteArray} (h : Sts w a l) (hb : Below w.heap.size w u) : Sts u a l := by
  intro j x hj
  obtain ⟨g, off, e, hc⟩ := h j x hj
  exact ⟨g, off, e, kc hb hc⟩
theorem Bld.ne {w : World} {B b B' : Nat} {l : List UInt8} {v : Value} {L : List (List Int × Int)} (h : Bld w B b l) (hr : Hrs w B' v L) : v.ownBlock ≠ some b := by
  intro c
  obtain ⟨c2, f2, e2⟩ := hr.kind b c
  have key : ∀ p, Lib.BuilderAtF 43 5 B b p (Lib.byteCells l) w → False := by
    rintro p ⟨_, v', hb, _, _⟩
    rw [e2] at hb
    injection hb with hb
    injection hb with _ e3 _
    exact absurd e3 (by decide)
  rcases h with h | h
  · exact key _ h
  · exact key _ h
theorem wire_skip (r x : ByteArray) (l : List ByteArray) (h : goodS x = false) : wireB r (x :: l) = wireB r l ∧ wantL (x :: l) = wantL l := by
  unfold wireB wantL
  rw [List.filter_cons_of_neg (by simp [h])]
  exact ⟨rfl, rfl⟩
theorem wire_put (r x : ByteArray) (l : List ByteArray) (h : goodS x = true) : wireB r (x :: l) = (r ++ sentS x).data.toList ++ wireB r l ∧ wantL (x :: l) = (nums x, 0) :: wantL l := by
  unfold wireB wantL
  rw [List.filter_cons_of_pos h]
  exact ⟨rfl, rfl⟩
/-- how wired stands behind k texts -/
structure WS (w : World) (r : ByteArray) (l : List ByteArray) (k : Nat) (v : Value) (acc : List UInt8) (L : List (List Int × Int)) (wr : World) : Prop where
  bld : Bld wr w.heap.size w.heap.size acc
  own : Hrs wr w.heap.size v L
  bel : Below w.heap.size w wr
  eq1 : acc ++ wireB r (l.drop k) = wireB r l
  eq2 : L ++ wantL (l.drop k) = wantL l
theorem WS.below {w : World} {r : ByteArray} {l : List ByteArray} {k : Nat} {v : Value} {acc : List UInt8} {L : List (List Int × Int)} {wr u : World} (h : WS w r l k v acc L wr) (hb : Below wr.heap.size wr u) : WS w r l k v acc L u :=
  ⟨h.bld.below hb, h.own.below hb, h.bel.trans (hb.mono h.bel.size), h.eq1, h.eq2⟩
theorem WS.skip {w : World} {r x : ByteArray} {l : List ByteArray} {k : Nat} {v : Value} {acc : List UInt8} {L : List (List Int × Int)} {wr : World} (h : WS w r l k v acc L wr) (hx : l[k]? = some x) (hg : goodS x = false) : WS w r l (k + 1) v acc L wr := by
  obtain ⟨hk, e⟩ := List.getElem?_eq_some_iff.1 hx
  have hd : l.drop k = x :: l.drop (k + 1) := by rw [List.drop_eq_getElem_cons hk, e]
  have e1 := h.eq1
  have e2 := h.eq2
  rw [hd] at e1 e2
  rw [(wire_skip r x _ hg).1] at e1
  rw [(wire_skip r x _ hg).2] at e2
  exact ⟨h.bld, h.own, h.bel, e1, e2⟩
/-- a text was written -/
structure WP (w : World) (r : ByteArray) (l : List ByteArray) (k : Nat) (x : ByteArray) (v : Value) (acc : List UInt8) (L : List (List Int × Int)) (wr : World) : Prop where
  bld : Bld wr w.heap.size w.heap.size (acc ++ (r ++ sentS x).data.toList)
  own : Hrs wr w.heap.size v L
  bel : Below w.heap.size w wr
  eq1 : acc ++ (r ++ sentS x).data.toList ++ wireB r (l.drop (k + 1)) = wireB r l
  eq2 : L ++ [(nums x, 0)] ++ wantL (l.drop (k + 1)) = wantL l
theorem WS.put {w : World} {r x y : ByteArray} {l : List ByteArray} {k : Nat} {v : Value} {acc : List UInt8} {L : List (List Int × Int)} {wr u : World} (h : WS w r l k v acc L wr) (hx : l[k]? = some x) (hg : goodS x = true) (hy : r ++ sentS x = y)
    (h1 : Bld u w.heap.size w.heap.size (acc ++ y.data.toList)) (h2 : Below w.heap.size wr u) (h3 : Lib.OthersKept 5 (some w.heap.size) wr u) : WP w r l k x v acc L u := by
  obtain ⟨hk, e⟩ := List.getElem?_eq_some_iff.1 hx
  have hd : l.drop k = x :: l.drop (k + 1) := by rw [List.drop_eq_getElem_cons hk, e]
  have e1 := h.eq1
  have e2 := h.eq2
  rw [hd] at e1 e2
  rw [(wire_put r x _ hg).1] at e1
  rw [(wire_put r x _ hg).2] at e2
  rw [← hy] at h1
  exact ⟨h1, h.own.others h3 (h.bld.ne h.own), h.bel.trans h2, by rw [List.append_assoc]; exact e1, by rw [List.append_assoc]; exact e2⟩
theorem WP.below {w : World} {r : ByteArray} {l : List ByteArray} {k : Nat} {x : ByteArray} {v : Value} {acc : List UInt8} {L : List (List Int × Int)} {wr u : World} (h : WP w r l k x v acc L wr) (hb : Below wr.heap.size wr u) : WP w r l k x v acc L u :=
  ⟨h.bld.below hb, h.own.below hb, h.bel.trans (hb.mono h.bel.size), h.eq1, h.eq2⟩
theorem WP.next {w : World} {r : ByteArray} {l : List ByteArray} {k : Nat} {x : ByteArray} {v : Value} {acc : List UInt8} {L : List (List Int × Int)} {wr w2 : World} {g2 cap2 : Nat} (h : WP w r l k x v acc L wr)
    (hown : w2.ownsRow w.heap.size 35 2 (.slice (some ⟨g2, 0, none⟩) (L.length + 1) cap2) (L.length + 1) (hcells L ++ [.string (strOfNums (nums x)), .int .i64 0])) (hgr : wr.grownBy w2 v.ownBlock) :
    WS w r l (k + 1) (.slice (some ⟨g2, 0, none⟩) (L.length + 1) cap2) (acc ++ (r ++ sentS x).data.toList) (L ++ [(nums x, 0)]) w2 := by
  refine ⟨h.bld.grown hgr (fun c => h.bld.ne h.own c.symm) h.own.kind, Hrs.push hown, h.bel.grown hgr h.bel.size (fun k hk => (h.own.lt k hk).1), h.eq1, h.eq2⟩
theorem good_size (x : ByteArray) (h : goodS x = true) : sizedL x.size = 0 ∧ (sentS x).size ≤ 759 := by
  have h0 : sizedL x.size = 0 := by simpa [goodS] using h
  refine ⟨h0, ?_⟩
  unfold sentS
  rw [if_pos h0, str_size]
  unfold sentL
  rw [List.length_append]
  have := wave_short (nums x) (by rw [nums_length]; exact h0)
  show _ + 3 ≤ _
  omega

set_option maxHeartbeats 2000000 in
theorem wired_any (a : Option Addr) (cap : Nat) (l : List ByteArray) (r : ByteArray) (w : World) (ha : Sts w a l) (hl : l.length ≤ 50) (hcap : l.length ≤ cap) (hcm : cap ≤ maxLen) (hr : r.size ≤ 50) (hz : ∀ x ∈ l, x.size ≤ maxLen) :
    Calls Try.prog 6 #[.slice a l.length cap, .string r] w fun e w' => ∃ v, e = .returned (.tuple #[.string ⟨(wireB r l).toArray⟩, v]) ∧ Hrs w' w.heap.size v (wantL l) ∧ Below w.heap.size w w' := by
  have HSt : Hid (∀ u, Below w.heap.size w u → Sts u a l) := fun u hu => ha.below hu
  have HZ : Hid (∀ x ∈ l, x.size ≤ maxLen) := hz
  obtain ⟨i0, hi, hz0, hz1, hz2⟩ := info_parts infoH
  unfold maxLen at hcm
  clear ha hz
  have HS0 : Hid (WS w r l 0 (.slice none 0 0) [] [] (w.alloc (.cells #[.pointer none, .slice none 0 0] 43))) := ⟨Bld.fresh w, Hrs.nil _ _, balloc w _, by simp, by simp⟩
  go_enter Try.func6, Try.ntmps6
  go_wp2
  obtain ⟨w00, hw00⟩ : ∃ u, w.alloc (.cells #[.pointer none, .slice none 0 0] 43) = u := ⟨_, rfl⟩
  rw [hw00] at HS0 ⊢
  clear hw00
  go_loopw [7, 14] (fun v i wr => ∃ (k : Nat) (acc : List UInt8) (L : List (List Int × Int)), k ≤ l.length ∧ L.length ≤ k ∧ acc.length ≤ 809 * k ∧ i = .int .i64 k ∧ Hid (WS w r l k v acc L wr))
    (fun _ i _ => l.length - (intOf i).toNat)
  case atStart => exact ⟨0, [], [], Nat.zero_le _, Nat.le_refl _, Nat.le_refl _, rfl, HS0⟩
  case round =>
    clear HS0
    obtain ⟨k, acc, L, hk, hLk, hak, rfl, HR⟩ := hrel
    by_cases hlt : k < l.length
    · obtain ⟨x, hx⟩ : ∃ x, l[k]? = some x := ⟨l[k], List.getElem?_eq_getElem hlt⟩
      obtain ⟨g, off, rfl, hcell⟩ := HSt.out wr HR.out.bel k x hx
      have hxz := HZ.out x (List.mem_of_getElem? hx)
      have HX : Hid (l[k]? = some x) := hx
      have HSend : Hid (∀ w, Calls Try.prog 10 #[.string x] w fun e w' => e = .returned (.tuple #[.string (sentS x), .int .i64 (sizedL x.size)]) ∧ Below w.heap.size w w') := fun w => send_any x w hxz
      clear hx hxz
      cases hg : goodS x
      · have hne : (sizedL x.size != 0) = true := by
          have : ¬ sizedL x.size = 0 := by simpa [goodS] using hg
          simpa using this
        have HG : Hid (goodS x = false) := hg
        generalize sizedL x.size = c at HSend hne
        generalize sentS x = y at HSend
        clear hg
        go_wp2_with fail
        refine (HSend.out _).mono ?_
        rintro e u ⟨rfl, hb⟩
        have HN : Hid _ := (HR.out.below hb).skip HX.out HG.out
        clear hb HR hcell
        go_wp2
        go_roundw
        case rel => exact ⟨k + 1, acc, L, by omega, by omega, by omega, by go_num, HN⟩
        case measure => simp [intOf]; omega
      · obtain ⟨g0, g1⟩ := good_size x hg
        rw [g0] at HSend
        have HG : Hid (goodS x = true) := hg
        have hyz : (r ++ sentS x).size = r.size + (sentS x).size := ByteArray.size_append
        obtain ⟨t, ht⟩ : ∃ t, sentS x = t := ⟨_, rfl⟩
        rw [ht] at HSend g1 hyz
        obtain ⟨y, hy⟩ : ∃ y, r ++ t = y := ⟨_, rfl⟩
        rw [hy] at hyz
        have HY : Hid (r ++ sentS x = y) := by rw [ht]; exact hy
        have hyl : y.data.toList.length = y.size := by rw [Array.length_toList]; rfl
        clear hg ht g0
        go_wp2_with fail
        refine (HSend.out _).mono ?_
        rintro e u ⟨rfl, hb⟩
        have HR2 : Hid (WS w r l k u7 acc L u) := HR.out.below hb
        clear hb HR hcell HSend
        go_wp2_with fail
        refine (write_any w.heap.size w.heap.size acc y u HR2.out.bld (by omega) HR2.out.bel.size).mono ?_
        rintro e u2 ⟨rfl, q1, q2, q3⟩
        have HP : Hid (WP w r l k x u7 acc L (u2.alloc (.cells #[.string x, .int .i64 0] 35))) := (HR2.out.put HX.out HG.out HY.out q1 q2 q3).below (balloc u2 _)
        clear q1 q2 q3 HR2
        go_wp2_with (at_builtin; (refine wpList_append_lies _ rfl _ _ 24 rfl w.heap.size 35 i0 _ 2 24 Try.underlying24 hi hz0 hz1 hz2 rfl (by omega) u7 L.length (hcells L) rfl HP.out.own ⟨u2.heap.size, 0, none⟩ 1 1 [.string x, .int .i64 0] rfl rfl (World.news_of_block (cs := #[.string x, .int .i64 0]) (t := 35) (fr := (0, 0)) (heap_alloc_new u2 _)) (by simp [Value.oneCell']) (by omega) (by unfold maxLen; omega) (by omega) HP.out.bel.size (u2.heap.size + 1) (by simp) ?_); intro g2 cap2 w2 hown2 hgrow2 hat2 hlt2)
        have HN : Hid _ := HP.out.next (by rw [str_nums]; exact hown2) hgrow2
        have hln : (acc ++ (r ++ sentS x).data.toList).length ≤ 809 * (k + 1) := by
          rw [HY.out, List.length_append, hyl]; omega
        clear hown2 hgrow2 hat2 hlt2 HP
        go_wp2
        go_roundw
        case rel => exact ⟨k + 1, acc ++ (r ++ sentS x).data.toList, L ++ [(nums x, 0)], by omega, by simp; omega, hln, by go_num, HN⟩
        case measure => simp [intOf]; omega
    · obtain rfl : k = l.length := by omega
      have e1 := HR.out.eq1
      have e2 := HR.out.eq2
      rw [List.drop_length] at e1 e2
      have E1 : Hid (acc = wireB r l) := by
        show _ = _
        rw [← e1]; simp [wireB]
      have E2 : Hid (L = wantL l) := by
        show _ = _
        rw [← e2]; simp [wantL]
      clear e1 e2
      go_wp2_with fail
      refine (string_any w.heap.size w.heap.size acc wr HR.out.bld HR.out.bel.size).mono ?_
      rintro e u2 ⟨rfl, q2, q3⟩
      have HO : Hid (Hrs u2 w.heap.size u7 L) := HR.out.own.others q3 (HR.out.bld.ne HR.out.own)
      have HB : Hid (Below w.heap.size w u2) := HR.out.bel.trans q2
      clear q2 q3 HR
      go_wp2
      go_ret2
      rw [← E1.out, ← E2.out]
      exact ⟨u7, rfl, HO.out, HB.out⟩
end Go.Proofs.Ytbkdalgmhmaofab.lane
