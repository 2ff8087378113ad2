/- phy: what Hear answers. -/
import Derived.Test.YtbkdalgmhmaofabPhyF
namespace Go.Proofs.Ytbkdalgmhmaofab.lane
open Go.RowKit Go.PlainAid
set_option linter.unusedVariables false

abbrev ear (r : ByteArray) : Value := .agg #[.string r]
theorem hd_of (w : World) (s : ByteArray) (hs : s.size ≤ maxLen) : Hd (w.drew.alloc (.cells (bytesRow s (grownCap w s.size 0 5)) 5 ((bytesRow s (grownCap w s.size 0 5)).size, (bytesRow s (grownCap w s.size 0 5)).size + 1))) w.heap.size s.size (grownCap w s.size 0 5) (nums s) := by
  have hge := grownCap_ge w s.size 0 5
  have hle := grownCap_le_maxLen w s.size 0 5 hs
  have hb := byts_of w s (grownCap w s.size 0 5)
  generalize grownCap w s.size 0 5 = cap at *
  have hz : (bytesRow s cap).size = cap := by
    unfold bytesRow
    rw [Array.size_append, Array.size_map]
    have : s.data.size = s.size := rfl
    simp [this]
    omega
  refine ⟨hb.len, hge, hle, by simp, hb.cell, fun j hj => ?_, fun j hj => ?_⟩
  · have := World.cell?_alloc_mark w.drew (bytesRow s cap) 5 ((bytesRow s cap).size, (bytesRow s cap).size + 1) j
    have e : w.drew.heap.size = w.heap.size := rfl
    rw [e] at this
    rw [this, Array.getElem?_eq_getElem (by omega)]
    rfl
  · have := World.frozen?_alloc_mark w.drew (bytesRow s cap) 5 (bytesRow s cap).size ((bytesRow s cap).size + 1) j
    refine this.trans ?_
    simp
    omega

set_option maxHeartbeats 1000000 in
theorem hear_no (r s : ByteArray) (w : World) (hs : s.size ≤ maxLen) (hr : r.size ≤ maxLen) (h : sigB (nums s) = false ∨ sigB (nums r) = false) :
    Calls Try.prog 7 #[ear r, .string s] w fun e w' => e = .returned (.tuple #[ear r, .slice none 0 0, .int .i64 1]) ∧ Below w.heap.size w w' := by
  have H1 : Hid (∀ w, Calls Try.prog 14 #[.string s] w fun e w' => e = .returned (.bool (sigB (nums s))) ∧ w = w') := fun w => areSigns_any s w hs
  have H2 : Hid (∀ w, Calls Try.prog 14 #[.string r] w fun e w' => e = .returned (.bool (sigB (nums r))) ∧ w = w') := fun w => areSigns_any r w hr
  cases h1 : sigB (nums s)
  · rw [h1] at H1
    clear h h1 H2
    go_enter Try.func7, Try.ntmps7
    go_wp2_with fail
    refine (H1.out _).mono ?_
    rintro e u ⟨rfl, rfl⟩
    go_wp2
    exact bodyPost_ret (v := .tuple #[ear r, .slice none 0 0, .int .i64 1]) (by simp [results, Try.results7, go_sem]) rfl ⟨rfl, (balloc w _).alloc (by simp) _⟩
  · have h2 : sigB (nums r) = false := by rw [h1] at h; simpa using h
    rw [h1] at H1
    rw [h2] at H2
    clear h h1 h2
    go_enter Try.func7, Try.ntmps7
    go_wp2_with fail
    refine (H1.out _).mono ?_
    rintro e u ⟨rfl, rfl⟩
    go_wp2_with fail
    refine (H2.out _).mono ?_
    rintro e u ⟨rfl, rfl⟩
    go_wp2
    exact bodyPost_ret (v := .tuple #[ear r, .slice none 0 0, .int .i64 1]) (by simp [results, Try.results7, go_sem]) rfl ⟨rfl, (balloc w _).alloc (by simp) _⟩

theorem ear_res (w : World) (r : ByteArray) : ((w.alloc (.cells #[.string r] 28)).alloc (.cells #[.string ⟨#[]⟩] 28)).cell? ⟨w.heap.size + 1, 0, none⟩ = some (.string ⟨#[]⟩) ∧
    ((w.alloc (.cells #[.string r] 28)).alloc (.cells #[.string ⟨#[]⟩] 28)).frozen? ⟨w.heap.size + 1, 0, none⟩ = false := by
  constructor <;> go_simp
/-- how Hear stands behind k levels -/
structure HS (W : World) (r s : ByteArray) (k : Nat) (va : Value) (g n cap : Nat) (acc : List Int) (L : List (List Int × Int)) (wr : World) : Prop where
  hd : Hd wr g n cap acc
  base : W.heap.size ≤ g
  own : Hrs wr W.heap.size va L
  ne : va.ownBlock ≠ some g
  bel : Below W.heap.size W wr
  sg : sigB acc = true
  eq : (L ++ (hearL acc ((nums s).drop k)).1, (hearL acc ((nums s).drop k)).2) = hearL (nums r) (nums s)
theorem HS.skip {W : World} {r s : ByteArray} {k : Nat} {va : Value} {g cap : Nat} {L : List (List Int × Int)} {wr : World} (h : HS W r s k va g 0 cap [] L wr) (hk : k < s.size) (hx : bt s k = 74) :
    HS W r s (k + 1) va g 0 cap [] L wr := by
  refine ⟨h.hd, h.base, h.own, h.ne, h.bel, h.sg, ?_⟩
  have e := h.eq
  rw [drop_nums s k hk, hx, hear_skip] at e
  exact e
theorem Hd.grown {w u : World} {g n cap : Nat} {acc : List Int} {row : Option Nat} (h : Hd w g n cap acc) (hg : w.grownBy u row) (hne : Option.some g ≠ row) : Hd u g n cap acc := by
  have hb := hg.block g h.lt hne
  refine ⟨h.len, h.le, h.max, Nat.lt_of_lt_of_le h.lt hg.size, fun j hj => ?_, fun j hj => ?_, fun j hj => ?_⟩
  · rw [World.cell?_of_block (a := ⟨g, j, none⟩) hb]; exact h.cell j hj
  · rw [World.cell?_of_block (a := ⟨g, j, none⟩) hb]; exact h.some j hj
  · rw [World.frozen?_of_block (a := ⟨g, j, none⟩) hb]; exact h.free j hj
theorem heap_two (u : World) (o p : Obj) : ((u.alloc o).alloc p).heap[u.heap.size + 1]? = some p := by
  have := heap_alloc_new (u.alloc o) p
  simpa using this
theorem Hrs.mono {w : World} {B B' : Nat} {v : Value} {L : List (List Int × Int)} (h : Hrs w B v L) (hb : B' ≤ B) : Hrs w B' v L := Joins.ownsRow_le h hb
theorem Hrs.set {w : World} {B : Nat} {v : Value} {L : List (List Int × Int)} (h : Hrs w B v L) (a : Addr) (x : Value) (ha : a.block < B) : Hrs (w.setCell a x) B v L := by
  refine h.grown (row := some a.block) ⟨rfl, rfl, rfl, by simp, fun k hk hne => Below.heap_setCell w _ _ k (fun q => hne (by rw [q]))⟩ (.inr ?_)
  intro c
  have := (h.lt a.block c).1
  omega
/-- a sign has been put behind the levels -/
structure HP (W : World) (va : Value) (g n cap : Nat) (acc : List Int) (L : List (List Int × Int)) (wr : World) : Prop where
  hd : Hd wr g n cap acc
  base : W.heap.size ≤ g
  own : Hrs wr W.heap.size va L
  ne : va.ownBlock ≠ some g
  bel : Below W.heap.size W wr
  sg : sigB acc = true
theorem HP.below {W : World} {va : Value} {g n cap : Nat} {acc : List Int} {L : List (List Int × Int)} {w u : World} (h : HP W va g n cap acc L w) (hb : Below w.heap.size w u) : HP W va g n cap acc L u :=
  ⟨h.hd.below hb h.hd.lt, h.base, h.own.below hb, h.ne, h.bel.trans (hb.mono h.bel.size), h.sg⟩
theorem HS.put {W : World} {r s : ByteArray} {k : Nat} {va : Value} {g n cap : Nat} {acc : List Int} {L : List (List Int × Int)} {wr : World} {x : Int} {o : Obj} {g1 cap1 : Nat} {w1 : World} (h : HS W r s k va g n cap acc L wr)
    (hd1 : Hd w1 g1 (n + 1) cap1 (acc ++ [x])) (hg1 : (wr.alloc o).grownBy w1 (some g)) (hat1 : g1 = g ∨ (wr.alloc o).heap.size ≤ g1) (hx : sig x = true) : HP W va g1 (n + 1) cap1 (acc ++ [x]) L w1 := by
  have ho := h.own.below (balloc wr o)
  refine ⟨hd1, ?_, ho.grown hg1 (.inr h.ne), ?_, (h.bel.alloc h.bel.size o).grown hg1 (by simp; have := h.bel.size; omega) (fun k hk => by injection hk with hk; rw [← hk]; exact h.base), by rw [sigB_append, h.sg]; simpa [sigB] using hx⟩
  · rcases hat1 with e | e
    · rw [e]; exact h.base
    · simp at e; have := h.bel.size; omega
  · intro c
    rcases hat1 with e | e
    · rw [e] at c; exact h.ne c
    · have := (h.own.lt g1 c).2
      simp at e; omega
theorem HP.none {W : World} {r s : ByteArray} {k : Nat} {va : Value} {g n cap : Nat} {acc : List Int} {L : List (List Int × Int)} {w : World} (h : HP W va g n cap (acc ++ [bt s k]) L w) (hk : k < s.size) (hx : ¬ (bt s k = 74 ∧ acc = [])) (hp : heardL (acc ++ [bt s k]) = .none)
    (he : (L ++ (hearL acc ((nums s).drop k)).1, (hearL acc ((nums s).drop k)).2) = hearL (nums r) (nums s)) : HS W r s (k + 1) va g n cap (acc ++ [bt s k]) L w := by
  refine ⟨h.hd, h.base, h.own, h.ne, h.bel, h.sg, ?_⟩
  rw [drop_nums s k hk, hear_none _ _ _ hx hp] at he
  exact he
theorem HP.some {W : World} {r s : ByteArray} {k : Nat} {va : Value} {g n cap : Nat} {acc : List Int} {L : List (List Int × Int)} {p : List Int × Int} {w w2 : World} {g2 cap2 : Nat} (h : HP W va g n cap (acc ++ [bt s k]) L w) (hk : k < s.size) (hx : ¬ (bt s k = 74 ∧ acc = [])) (hp : heardL (acc ++ [bt s k]) = .some p)
    (he : (L ++ (hearL acc ((nums s).drop k)).1, (hearL acc ((nums s).drop k)).2) = hearL (nums r) (nums s))
    (hown : w2.ownsRow W.heap.size 35 2 (.slice (.some ⟨g2, 0, .none⟩) (L.length + 1) cap2) (L.length + 1) (hcells L ++ [.string (strOfNums p.1), .int .i64 p.2])) (hgr : w.grownBy w2 va.ownBlock) (hat : va.ownBlock = .some g2 ∨ g2 = w.heap.size) :
    HS W r s (k + 1) (.slice (.some ⟨g2, 0, .none⟩) (L.length + 1) cap2) g 0 cap [] (L ++ [p]) w2 := by
  refine ⟨(h.hd.grown hgr (fun c => h.ne c.symm)).reset, h.base, Hrs.push hown, ?_, h.bel.grown hgr h.bel.size (fun k hk => (h.own.lt k hk).1), rfl, ?_⟩
  · intro c
    have c' : g2 = g := by simpa [Value.ownBlock] using c
    rcases hat with e | e
    · rw [c'] at e; exact h.ne e
    · have := h.hd.lt; omega
  · rw [drop_nums s k hk, hear_some _ _ _ _ hx hp] at he
    rw [← he]
    simp
set_option maxHeartbeats 2000000 in
theorem hear_ok (r s : ByteArray) (w : World) (hs : s.size ≤ 4398046511104) (hr : r.size ≤ 4398046511104) (h1 : sigB (nums s) = true) (h2 : sigB (nums r) = true) :
    Calls Try.prog 7 #[ear r, .string s] w fun e w' => ∃ v, e = .returned (.tuple #[ear (strOfNums (hearL (nums r) (nums s)).2), v, .int .i64 0]) ∧ Hrs w' w.heap.size v (hearL (nums r) (nums s)).1 ∧ Below w.heap.size w w' := by
  have H1 : Hid (∀ w, Calls Try.prog 14 #[.string s] w fun e w' => e = .returned (.bool true) ∧ w = w') := fun w => by
    have := areSigns_any s w (by unfold maxLen; omega)
    rw [h1] at this
    exact this
  have H2 : Hid (∀ w, Calls Try.prog 14 #[.string r] w fun e w' => e = .returned (.bool true) ∧ w = w') := fun w => by
    have := areSigns_any r w (by unfold maxLen; omega)
    rw [h2] at this
    exact this
  have G1 : Hid (sigB (nums s) = true) := h1
  have G2 : Hid (sigB (nums r) = true) := h2
  clear h1 h2
  have hcv := fun w => run_bytes_of_string (P := Try.prog) w 9 41 5 r Try.underlying9 Try.underlying41 Try.underlying5
  have hb := get_bt s
  obtain ⟨i0, hi, hz0, hz1, hz2⟩ := info_parts infoH
  go_enter Try.func7, Try.ntmps7
  go_wp2_with fail
  refine (H1.out _).mono ?_
  rintro e u ⟨rfl, rfl⟩
  go_wp2_with fail
  refine (H2.out _).mono ?_
  rintro e u ⟨rfl, rfl⟩
  go_wp2
  obtain ⟨W, hW⟩ : ∃ W : World, (w.alloc (.cells #[.string r] 28)).alloc (.cells #[.string ⟨#[]⟩] 28) = W := ⟨_, rfl⟩
  have hWz : W.heap.size = w.heap.size + 2 := by rw [← hW]; simp
  have hWb : Below w.heap.size w W := by rw [← hW]; exact (balloc w _).alloc (by simp) _
  obtain ⟨hWc, hWf⟩ := ear_res w r
  rw [hW] at hWc hWf
  have hst : Hid (HS W r s 0 (.slice none 0 0) (w.heap.size + 2) r.size (grownCap W r.size 0 5) (nums r) [] (W.alloc (.cells (bytesRow r (grownCap W r.size 0 5)) 5 ((bytesRow r (grownCap W r.size 0 5)).size, (bytesRow r (grownCap W r.size 0 5)).size + 1))).drew) := by
    have hh := hd_of W r (by unfold maxLen; omega)
    rw [hWz] at hh
    exact ⟨hh, by omega, Hrs.nil _ _, by simp [Value.ownBlock], ((Below.refl _ _).alloc (Nat.le_refl _) _).drew, G2.out, by simp⟩
  rw [hW]
  generalize grownCap W r.size 0 5 = cap0 at *
  generalize (W.alloc (.cells (bytesRow r cap0) 5 ((bytesRow r cap0).size, (bytesRow r cap0).size + 1))).drew = w00 at *
  clear hcv hW
  go_loopw [7, 8, 27] (fun va vh i wr => ∃ (k g n cap : Nat) (acc : List Int) (L : List (List Int × Int)), k ≤ s.size ∧ n ≤ r.size + k ∧ L.length ≤ k ∧ i = .int .i64 k ∧ vh = .slice (some ⟨g, 0, none⟩) n cap ∧ Hid (HS W r s k va g n cap acc L wr))
    (fun _ _ i _ => s.size - (intOf i).toNat)
  case atStart => exact ⟨0, w.heap.size + 2, r.size, cap0, nums r, [], Nat.zero_le _, by omega, Nat.le_refl _, rfl, rfl, hst⟩
  case round =>
    clear hst
    obtain ⟨k, g, n, cap, acc, L, hk, hn, hL, rfl, rfl, HR⟩ := hrel
    by_cases hlt : k < s.size
    · have h0 := bt_nonneg s k
      have h255 := bt_le s k
      by_cases hsk : bt s k = 74 ∧ acc = []
      · obtain ⟨h74, rfl⟩ := hsk
        obtain rfl : n = 0 := HR.out.hd.len.symm
        have HN : Hid _ := HR.out.skip hlt h74
        have e74 : (bt s k == 74) = true := by simpa using h74
        clear h74 HR
        go_wp2
        go_roundw
        case rel => exact ⟨k + 1, g, 0, cap, [], L, by omega, by omega, by omega, by go_num, rfl, HN⟩
        case measure => simp [intOf]; omega
      · have etest : ((bt s k == 74) = true ∧ ((n : Int) == 0) = false) ∨ ((bt s k == 74) = false) := by
          by_cases h74 : bt s k = 74
          · left
            refine ⟨by simpa using h74, ?_⟩
            have hne : ¬ acc = [] := fun c => hsk ⟨h74, c⟩
            have : n ≠ 0 := by
              intro c
              apply hne
              apply List.eq_nil_of_length_eq_zero
              rw [HR.out.hd.len, c]
            simpa using this
          · right; simpa using h74
        have HX : Hid (¬ (bt s k = 74 ∧ acc = [])) := hsk
        clear hsk
        have hsx : sig (bt s k) = true := by
          have h := G1.out
          unfold sigB at h
          rw [List.all_eq_true] at h
          refine h _ ?_
          rw [← nums_get s k hlt]
          exact List.getElem_mem _
        have HE : Hid _ := HR.out.eq
        rcases etest with ⟨et1, et2⟩ | et1
        all_goals
          go_wp2_with (at_builtin; (refine wpList_held _ rfl _ _ rfl g n cap acc (HR.out.hd.below (balloc wr _) HR.out.hd.lt) rfl wr.heap.size 1 (bt s k) rfl (by go_simp) (by omega) ?_); intro g1 cap1 w1 hd1 hg1 hat1)
          have HM : Hid _ := HR.out.put hd1 hg1 hat1 hsx
          clear HR hd1 hg1 hat1
          cases hp : heardL (acc ++ [bt s k]) with
          | none =>
            have HC : Hid (Calls Try.prog 15 #[.slice (some ⟨g1, 0, none⟩) (n + 1) cap1] w1 fun e w' => e = .returned (.tuple #[hrd ⟨#[]⟩ 0, .bool false]) ∧ Below w1.heap.size w1 w') := heard_none_any g1 (n + 1) cap1 (acc ++ [bt s k]) w1 HM.out.hd HM.out.sg hp
            have HPP : Hid (heardL (acc ++ [bt s k]) = none) := hp
            clear hp
            go_wp2_with fail
            refine HC.out.mono ?_
            rintro e u ⟨rfl, hb⟩
            have HN : Hid _ := (((HM.out.below hb).below (balloc u (.cells #[.string ⟨#[]⟩, .int .i64 0] 35))).none hlt HX.out HPP.out HE.out)
            clear hb HM HC HPP
            go_wp2
            go_roundw
            case rel => exact ⟨k + 1, g1, n + 1, cap1, acc ++ [bt s k], L, by omega, by omega, by omega, by go_num, rfl, HN⟩
            case measure => simp [intOf]; omega
          | some p =>
            have HC : Hid (Calls Try.prog 15 #[.slice (some ⟨g1, 0, none⟩) (n + 1) cap1] w1 fun e w' => e = .returned (.tuple #[hrd (strOfNums p.1) p.2, .bool true]) ∧ Below w1.heap.size w1 w') := heard_some_any g1 (n + 1) cap1 (acc ++ [bt s k]) p w1 HM.out.hd HM.out.sg (by omega) hp
            have HPP : Hid (heardL (acc ++ [bt s k]) = some p) := hp
            clear hp
            go_wp2_with fail
            refine HC.out.mono ?_
            rintro e u ⟨rfl, hb⟩
            have HN : Hid _ := ((HM.out.below hb).below (balloc u (.cells #[.string (strOfNums p.1), .int .i64 p.2] 35))).below (balloc _ (.cells #[.string (strOfNums p.1), .int .i64 p.2] 35))
            clear hb HM HC
            go_wp2_with (at_builtin; (refine wpList_append_lies _ rfl _ _ 24 rfl W.heap.size 35 i0 _ 2 24 Try.underlying24 hi hz0 hz1 hz2 rfl (by omega) u7 L.length (hcells L) rfl HN.out.own ⟨u.heap.size + 1, 0, none⟩ 1 1 [.string (strOfNums p.1), .int .i64 p.2] rfl rfl (World.news_of_block (cs := #[.string (strOfNums p.1), .int .i64 p.2]) (t := 35) (fr := (0, 0)) (heap_two u _ _)) (by simp [Value.oneCell']) (by omega) (by unfold maxLen; omega) (by omega) HN.out.bel.size (u.heap.size + 2) (by simp) ?_); intro g2 cap2 w2 hown2 hgrow2 hat2 hlt2)
            have HF : Hid _ := HN.out.some hlt HX.out HPP.out HE.out hown2 hgrow2 (by simpa using hat2)
            clear HN hown2 hgrow2 hat2 hlt2 HPP
            go_wp2
            go_roundw
            case rel => exact ⟨k + 1, g1, 0, cap1, [], L ++ [p], by omega, by omega, by simp; omega, by go_num, rfl, HF⟩
            case measure => simp [intOf]; omega
    · obtain rfl : k = s.size := by omega
      have he := HR.out.eq
      rw [drop_end s _ (Nat.le_refl _), hear_nil] at he
      have e1 : L = (hearL (nums r) (nums s)).1 := by rw [← he]; simp
      have e2 : acc = (hearL (nums r) (nums s)).2 := by rw [← he]
      have hcv := HR.out.hd.conv cap
      have hbel := HR.out.bel
      have c0 : wr.cell? ⟨w.heap.size + 1, 0, none⟩ = some (.string ⟨#[]⟩) := (hbel.cell (p := ⟨w.heap.size + 1, 0, none⟩) (by show w.heap.size + 1 < _; omega)).trans hWc
      have f0 : wr.frozen? ⟨w.heap.size + 1, 0, none⟩ = false := (hbel.frozen (p := ⟨w.heap.size + 1, 0, none⟩) (by show w.heap.size + 1 < _; omega)).trans hWf
      have HO : Hid (Hrs wr W.heap.size u7 L) := HR.out.own
      have HB : Hid (Below w.heap.size w wr) := hWb.trans (hbel.mono (by omega))
      have E1 : Hid _ := e1
      obtain ⟨q, hq⟩ : ∃ q, strOfNums acc = q := ⟨_, rfl⟩
      rw [hq] at hcv
      rw [e2] at hq
      have E2 : Hid (strOfNums (hearL (nums r) (nums s)).2 = q) := hq
      clear he e1 e2 HR hbel hq
      go_wp2
      rw [← E1.out, E2.out]
      refine bodyPost_ret (v := .tuple #[ear q, u7, .int .i64 0]) (by simp [results, Try.results7, go_sem, c0]) rfl ⟨u7, rfl, ?_, HB.out.setCell (by show w.heap.size ≤ w.heap.size + 1; omega) _⟩
      exact (HO.out.set ⟨w.heap.size + 1, 0, none⟩ _ (by show w.heap.size + 1 < _; omega)).mono (by omega)
end Go.Proofs.Ytbkdalgmhmaofab.lane
