/- ring: turns: the plain part; what isTurn, checkTurns and Play answer. -/
import Derived.Test.YtmapnkjmgpkhfaaRngK
import Derived.Test.YtmapnkjmgpkhfaaRngN
import Derived.Test.YtmapnkjmgpkhfaaRngO
import Derived.Test.YtmapnkjmgpkhfaaRngU
namespace Go.Proofs.Ytmapnkjmgpkhfaa.ring
open Go Go.RowKit
set_option linter.unusedVariables false
set_option linter.unusedSimpArgs false
set_option maxRecDepth 100000

/-- all that was put, how much was got, how much is known to be got -/
structure Sx where
  all : List Int
  got : Nat
  seen : Nat
def sx0 : Sx := ⟨[], 0, 0⟩
def putS (p : Nat) (s : Sx) (x : Int) : Sx := if s.all.length - s.seen < p - 1 then ⟨s.all ++ [x], s.got, s.seen⟩ else s
def getS (s : Sx) : Sx := ⟨s.all, if s.got < s.all.length then s.got + 1 else s.got, s.seen⟩
def stepT (p : Nat) (s : Sx) (t : Tn) : Sx := if t.1 = 1 then putS p s t.2 else if t.1 = 2 then getS s else if t.1 = 3 then ⟨s.all, s.got, s.got⟩ else s
def runT (p : Nat) : Sx → List Tn → Sx
  | s, [] => s
  | s, t :: r => runT p (stepT p s t) r
def InvS (p : Nat) (s : Sx) : Prop := Inv p s.all s.got s.seen
def stS (p : Nat) (s : Sx) : Rg := st p s.all s.got s.seen
theorem runT_at {p : Nat} {s : Sx} {T : List Tn} {k : Nat} {t : Tn} (h : T[k]? = some t) : runT p s (T.drop k) = runT p (stepT p s t) (T.drop (k + 1)) := by
  have hk := (List.getElem?_eq_some_iff.1 h).1
  have hx := (List.getElem?_eq_some_iff.1 h).2
  rw [List.drop_eq_getElem_cons hk, hx]
  rfl
theorem putS_inv {p : Nat} {s : Sx} (h : InvS p s) (x : Int) : InvS p (putS p s x) := by
  unfold putS
  split
  · rename_i q; exact inv_put h q x
  · exact h
theorem getS_inv {p : Nat} {s : Sx} (h : InvS p s) : InvS p (getS s) := by
  unfold getS
  show Inv p s.all (if s.got < s.all.length then s.got + 1 else s.got) s.seen
  split
  · rename_i q; exact inv_get h q
  · exact h
theorem lrnS_inv {p : Nat} {s : Sx} (h : InvS p s) : InvS p ⟨s.all, s.got, s.got⟩ := inv_lrn h
theorem putS_st {p : Nat} {s : Sx} (h : InvS p s) (x : Int) : (if putB (stS p s) = true then putV (stS p s) x else stS p s) = stS p (putS p s x) := by
  unfold putS stS
  rw [st_room h]
  by_cases q : s.all.length - s.seen < p - 1
  · rw [if_pos (by simpa using q), if_pos q, st_put h]
  · rw [if_neg (by simpa using q), if_neg q]
theorem getS_st {p : Nat} {s : Sx} (h : InvS p s) : getV (stS p s) = stS p (getS s) := st_getV h
theorem lrnS_st {p : Nat} {s : Sx} : lrn (stS p s) = stS p ⟨s.all, s.got, s.got⟩ := rfl
theorem getS_word {p : Nat} {s : Sx} (h : InvS p s) (hg : getB (stS p s) = true) : s.all.take s.got ++ [getW (stS p s)] = (getS s).all.take (getS s).got := by
  have h1 := hg
  unfold stS at h1
  rw [st_get h] at h1
  have h1 : s.got < s.all.length := by simpa using h1
  unfold stS
  rw [st_getW h h1]
  show _ = s.all.take (if s.got < s.all.length then s.got + 1 else s.got)
  rw [if_pos h1, List.take_succ_eq_append_getElem h1, List.getD_eq_getElem?_getD, List.getElem?_eq_getElem h1]
  rfl
theorem getS_none {p : Nat} {s : Sx} (h : InvS p s) (hg : getB (stS p s) = false) : getS s = s := by
  have h1 := hg
  unfold stS at h1
  rw [st_get h] at h1
  have h1 : ¬ s.got < s.all.length := by simpa using h1
  unfold getS
  rw [if_neg h1]
theorem putS_take {p : Nat} {s : Sx} (h : InvS p s) (x : Int) : (putS p s x).all.take (putS p s x).got = s.all.take s.got := by
  unfold putS
  split
  · show (s.all ++ [x]).take s.got = _
    rw [List.take_append_of_le_length h.ga]
  · rfl
theorem putS_len (p : Nat) (s : Sx) (x : Int) : (putS p s x).all.length ≤ s.all.length + 1 := by
  unfold putS
  split
  · simp
  · omega
theorem stepT_inv {p : Nat} {s : Sx} (h : InvS p s) (t : Tn) : InvS p (stepT p s t) := by
  unfold stepT
  split
  · exact putS_inv h _
  · split
    · exact getS_inv h
    · split
      · exact lrnS_inv h
      · exact h
theorem runT_inv {p : Nat} : ∀ {T : List Tn} {s : Sx}, InvS p s → InvS p (runT p s T)
  | [], s, h => h
  | t :: r, s, h => runT_inv (T := r) (stepT_inv h t)
def turnB (x : Int) : Bool := (x == 1) || ((x == 2) || (x == 3))
def tcC (T : List Tn) : Int := if 1000 < T.length then 2 else if T.all (fun t => turnB t.1) = false then 1 else 0
def plC (c : Int) (T : List Tn) : Int := if cnB c = false then 1 else tcC T
def plS (c : Int) (T : List Tn) : Sx := runT (c.toNat - 1) sx0 T
def plR (c : Int) (T : List Tn) : Rg := if plC c T = 0 then stS (c.toNat - 1) (plS c T) else zR
def plL (c : Int) (T : List Tn) : List Int := if plC c T = 0 then (plS c T).all.take (plS c T).got else []
theorem isTurn_any (n : Int) (w : World) : Calls Try.prog 40 #[.int .i64 n] w fun e w' => e = .returned (.bool (turnB n)) ∧ w = w' := by
  unfold turnB
  cases h1 : (n == 1)
  · cases h2 : (n == 2)
    · cases h3 : (n == 3)
      · go_enter Try.func40, Try.ntmps40; go_wp2; go_ret; exact ⟨rfl, rfl⟩
      · go_enter Try.func40, Try.ntmps40; go_wp2; go_ret; exact ⟨rfl, rfl⟩
    · go_enter Try.func40, Try.ntmps40; go_wp2; go_ret; exact ⟨rfl, rfl⟩
  · go_enter Try.func40, Try.ntmps40; go_wp2; go_ret; exact ⟨rfl, rfl⟩
theorem all_at {T : List Tn} {k : Nat} {t : Tn} (h : T[k]? = some t) : (T.drop k).all (fun t => turnB t.1) = (turnB t.1 && (T.drop (k + 1)).all (fun t => turnB t.1)) := by
  have hk := (List.getElem?_eq_some_iff.1 h).1
  have hx := (List.getElem?_eq_some_iff.1 h).2
  rw [List.drop_eq_getElem_cons hk, hx]
  rfl
set_option maxHeartbeats 2000000 in
theorem checkTurns_any (v : Value) (T : List Tn) (w : World) (hv : Rtn w v T) : Calls Try.prog 32 #[v] w fun e w' => e = .returned (.int .i64 (tcC T)) ∧ Below w.heap.size w w' := by
  obtain ⟨a, c, rfl, hlc, hcm⟩ := hv.form
  obtain ⟨n, hn⟩ : ∃ n, T.length = n := ⟨_, rfl⟩
  have HN : Hid (T.length = n) := hn
  obtain ⟨z, hz⟩ : ∃ z, tcC T = z := ⟨_, rfl⟩
  have HZ : Hid ((if 1000 < n then (2 : Int) else if T.all (fun t => turnB t.1) = false then 1 else 0) = z) := by show _ = _; rw [← hz, ← hn]; rfl
  rw [hz]
  rw [hn] at hv hlc ⊢
  have HR : Hid (Rtn w (.slice a n c) T) := hv
  unfold maxLen at hcm
  clear hv hn hz
  by_cases hl : 1000 < n
  · have HQ : Hid ((2 : Int) = z) := by have := HZ.out; rw [if_pos hl] at this; exact this
    have e1 : decide ((n : Int) > 1000) = true := by rw [decide_eq_true_eq]; omega
    clear HZ HR hl
    go_enter Try.func32, Try.ntmps32
    go_wp2
    go_ret
    rw [← HQ.out]
    exact ⟨rfl, Below.refl _ _⟩
  have e1 : decide ((n : Int) > 1000) = false := by rw [decide_eq_false_iff_not]; omega
  obtain ⟨q, hq⟩ : ∃ q, T.all (fun t => turnB t.1) = q := ⟨_, rfl⟩
  have HQ : Hid (T.all (fun t => turnB t.1) = q) := hq
  have HZ2 : Hid ((if q = false then (1 : Int) else 0) = z) := by have := HZ.out; rw [if_neg hl, hq] at this; exact this
  have hn2 : n ≤ 1000 := by omega
  clear HZ hl hq
  go_enter Try.func32, Try.ntmps32
  go_wp2
  go_loopw [10] (fun i wr => ∃ k : Nat, k ≤ n ∧ i = .int .i64 (k : Int) ∧ Hid (Below w.heap.size w wr ∧ (T.drop k).all (fun t => turnB t.1) = q)) (fun i _ => n - (intOf i).toNat)
  case atStart => exact ⟨0, Nat.zero_le _, rfl, Below.refl _ _, HQ.out⟩
  case round =>
    obtain ⟨k, hk, rfl, HA⟩ := hrel
    by_cases hlt : ¬ k < n
    · have HQ2 : Hid ((0 : Int) = z) := by
        have h1 := HA.out.2
        rw [List.drop_eq_nil_of_le (by have := HN.out; omega)] at h1
        have h1 : true = q := h1
        have h2 := HZ2.out
        rw [← h1] at h2
        exact h2
      have HBr : Hid (Below w.heap.size w wr) := HA.out.1
      clear HA
      go_wp2
      go_ret
      rw [← HQ2.out]
      exact ⟨rfl, HBr.out⟩
    have hlt : k < n := by omega
    obtain ⟨x, hx⟩ : ∃ x, T[k]? = some x := ⟨_, List.getElem?_eq_getElem (by have := HN.out; omega)⟩
    have HA2 : Hid ((turnB x.1 && (T.drop (k + 1)).all (fun t => turnB t.1)) = q) := by have := HA.out.2; rw [all_at hx] at this; exact this
    obtain ⟨g, off, rfl, hcell⟩ := HR.out.at k x hx
    obtain ⟨c0, c1⟩ := hcell wr HA.out.1
    obtain ⟨xk, xw⟩ := x
    simp only at c0 c1 HA2
    obtain ⟨u1, uf, hu1, huf, hY1, hYf, hbf⟩ := laid2 wr 50 (.int .i64 0) (.int .u64 0) (.int .i64 xk) (.int .u64 xw)
    obtain ⟨⟨hy, y0, y1⟩, g0, g1⟩ := box2 hY1
    obtain ⟨⟨hyf, t0, t1⟩, _⟩ := box2 hYf
    have HBf : Hid (Below w.heap.size w uf) := bsq HA.out.1 hbf
    clear hcell hx hY1 hYf hbf HA
    go_wp2_with fail
    try rw [huf]
    refine (isTurn_any xk _).mono ?_
    rintro e u ⟨rfl, rfl⟩
    cases hb : turnB xk
    · have HQ2 : Hid ((1 : Int) = z) := by
        have h1 := HA2.out
        rw [hb] at h1
        have h1 : false = q := h1
        have h2 := HZ2.out
        rw [← h1] at h2
        exact h2
      clear HA2 hb huf
      go_wp2
      go_ret
      rw [← HQ2.out]
      exact ⟨rfl, HBf.out⟩
    · have HQ2 : Hid ((T.drop (k + 1)).all (fun t => turnB t.1) = q) := by have h1 := HA2.out; rw [hb] at h1; exact h1
      clear HA2 hb huf
      go_wp2
      go_roundw
      case rel => exact ⟨k + 1, by omega, by go_num, HBf.out, HQ2.out⟩
      case measure => simp [intOf]; omega
theorem own_kq {w u : World} {X g B : Nat} {e : TypeId} {s : Nat} {v : Value} {n : Nat} {xs : List Value} (h : w.ownsRow B e s v n xs) (hk : Kq X g w u) (h1 : v.ownBlock ≠ some X) (h2 : v.ownBlock ≠ some g) : u.ownsRow B e s v n xs := by
  rcases h.2 with hn | ⟨g', cap, cur, rfl, hB, hg', rest⟩
  · exact ⟨h.1, .inl hn⟩
  · exact ⟨h.1, .inr ⟨g', cap, cur, rfl, hB, (hk.block g' (Array.getElem?_eq_some_iff.1 hg').1 (fun q => h1 (by rw [q]; rfl)) (fun q => h2 (by rw [q]; rfl))).trans hg', rest⟩⟩
theorem Ces.blk {w : World} {B g n c : Nat} {L : List Ce} (h : Ces w B (.slice (some ⟨g, 0, none⟩) n c) L) : ∃ cur, w.heap[g]? = some (.cells cur 38) := by
  rcases h.2 with ⟨h', _⟩ | ⟨g', cap, cur, h', hB, hg', rest⟩
  · cases h'
  · injection h' with h' _ _
    injection h' with h'
    injection h' with h' _ _
    subst h'
    exact ⟨cur, hg'⟩
/-- a ring that is played with, the words that were got, and a box R that stays -/
structure Ply (w : World) (X g n c R : Nat) (p : Nat) (gv : Value) (s : Sx) (u : World) : Prop where
  bx : Bx X g n c (stS p s) u
  wd : Wds u w.heap.size gv (s.all.take s.got)
  rb : u.heap[R]? = some (rgO (.slice none 0 0) 0 0 0 0 0)
  rx : R ≠ X
  rg : R ≠ g
  lx : w.heap.size ≤ X
  lg : w.heap.size ≤ g
  bl : Below w.heap.size w u
  inv : InvS p s
section
variable {w u v : World} {X g n c R p : Nat} {gv : Value} {s : Sx}
theorem Ply.below (h : Ply w X g n c R p gv s u) (hb : Below u.heap.size u v) : Ply w X g n c R p gv s v :=
  ⟨h.bx.below hb, own_below h.wd hb, keep h.rb hb, h.rx, h.rg, h.lx, h.lg, bsq h.bl hb, h.inv⟩
theorem Ply.neX (h : Ply w X g n c R p gv s u) : gv.ownBlock ≠ some X := box_ne h.wd h.bx.1 (by decide)
theorem Ply.neG (h : Ply w X g n c R p gv s u) : gv.ownBlock ≠ some g := by
  obtain ⟨cur, hc⟩ := h.bx.2.1.blk
  exact box_ne h.wd hc (by decide)
theorem Ply.neR (h : Ply w X g n c R p gv s u) : gv.ownBlock ≠ some R := box_ne h.wd h.rb (by decide)
/-- the ring is another one -/
theorem Ply.to (h : Ply w X g n c R p gv s u) {s' : Sx} (hk : Kq X g u v) (hb : Bx X g n c (stS p s') v) (ht : s'.all.take s'.got = s.all.take s.got) (hi : InvS p s') : Ply w X g n c R p gv s' v :=
  ⟨hb, by rw [ht]; exact own_kq h.wd hk h.neX h.neG, hk.keep h.rb h.rx h.rg, h.rx, h.rg, h.lx, h.lg, h.bl.trans (hk.below h.lx h.lg h.bl.size), hi⟩
theorem grown_keep {Y : Nat} {o : Obj} {row : Option Nat} (h : u.heap[Y]? = some o) (hg : u.grownBy v row) (hn : row ≠ some Y) : v.heap[Y]? = some o :=
  (hg.block Y (Array.getElem?_eq_some_iff.1 h).1 (fun q => hn q.symm)).trans h
end
end Go.Proofs.Ytmapnkjmgpkhfaa.ring
