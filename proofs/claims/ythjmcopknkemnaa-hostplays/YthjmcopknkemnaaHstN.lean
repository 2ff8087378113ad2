/- host: the plain mathematics: what a driver that counts would say: commands taken, events made and reaped. No program is named here. -/
import Derived.Test.YthjmcopknkemnaaHstM
namespace Go.Proofs.Ythjmcopknkemnaa.host
open Go.Proofs.Ythjmcopknkemnaa
set_option linter.unusedVariables false

/-- the commands that were taken, the events that were made, how many were reaped, the board -/
structure Ps where
  C : List Cm
  E : List Ev
  g : Nat
  B : slots.Bd
def ps0 : Ps := ⟨[], [], 0, slots.zB⟩
def mcs (p q : Nat) (s : Ps) : Mc := ⟨ring.st p (s.C.map pkW) s.E.length s.g, ring.st q (s.E.map evW) s.g s.g, s.B⟩
structure Iv (p q : Nat) (s : Ps) : Prop where
  c : ring.Inv p (s.C.map pkW) s.E.length s.g
  e : ring.Inv q (s.E.map evW) s.g s.g
  pk : ∀ x ∈ s.C, Pk x
  sm : ∀ x ∈ s.E, Sm x
  pl : ∀ i x, s.E[i]? = some x → x.2.2 = ((i % p : Nat) : Int)
  w : slots.Wf s.B
  k : slots.chk s.B = true
def cm0 : Cm := (0, 0, 0, 0)
def ev0 : Ev := (0, 0, 0)
def nth (s : Ps) : Cm := s.C.getD s.E.length cm0
def tha (s : Ps) : slots.Ans := slots.doB s.B (nth s).1 (nth s).2.1 (nth s).2.2.1 (nth s).2.2.2
def rmB (p : Nat) (s : Ps) : Bool := decide (s.C.length - s.g < p - 1)
def sbS (p : Nat) (s : Ps) (x : Cm) : Ps := if pkB x = true ∧ rmB p s = true then ⟨s.C ++ [x], s.E, s.g, s.B⟩ else s
def sbT (p : Nat) (s : Ps) (x : Cm) : Int := if pkB x = false then 1 else if rmB p s = true then 0 else 11
def wsB (q : Nat) (s : Ps) : Bool := decide (s.E.length < s.C.length) && decide (s.E.length - s.g < q - 1)
def wsE (p : Nat) (s : Ps) : Ev := ((tha s).c, (tha s).n, ((s.E.length % p : Nat) : Int))
def wsV (p : Nat) (s : Ps) : Ps := ⟨s.C, s.E ++ [wsE p s], s.g, (tha s).B⟩
def wkS (p q : Nat) : Nat → Ps → Ps
  | 0, s => s
  | n + 1, s => if wsB q s = true then wkS p q n (wsV p s) else s
def wrS (p q : Nat) (s : Ps) (n : Int) : Ps := if (decide (1 ≤ n) && decide (n ≤ 1000)) = true then wkS p q n.toNat s else s
def rsB (s : Ps) : Bool := decide (s.g < s.E.length)
def rsE (s : Ps) : Ev := s.E.getD s.g ev0
def rsV (s : Ps) : Ps := if rsB s = true then ⟨s.C, s.E, s.g + 1, s.B⟩ else s
def hlS (s : Ps) (n e : Int) : Ps := ⟨s.C, s.E, s.g, slots.hlt s.B n e⟩
theorem csk_all {p : Nat} {all : List Int} {f : ring.Ce → Bool} (h0 : f ring.cz = true) (hf : ∀ w ∈ all, ∀ b, f (w, b, false) = true) (h1 : ∀ b, f (0, b, false) = true) : ∀ k, (ring.csk p all k).all f = true
  | 0 => by
    rw [List.all_eq_true]
    intro x hx
    rw [List.eq_of_mem_replicate hx]
    exact h0
  | k + 1 => by
    have ih := csk_all (p := p) h0 hf h1 k
    rw [List.all_eq_true] at *
    intro x hx
    rcases List.mem_or_eq_of_mem_set hx with q | q
    · exact ih x q
    · rw [q, List.getD_eq_getElem?_getD]
      cases e : all[k]? with
      | none => exact h1 _
      | some y => exact hf y (List.mem_of_getElem? e) _
theorem stL_all {p : Nat} {all : List Int} {f : ring.Ce → Bool} (h0 : f ring.cz = true) (hf : ∀ w ∈ all, ∀ b, f (w, b, false) = true) (h1 : ∀ b l, f (0, b, l) = true) : (ring.stL p all).all f = true := by
  unfold ring.stL
  rw [List.all_append, csk_all h0 hf (fun b => h1 b false)]
  simp [h1]
theorem Iv.rm {p q : Nat} {s : Ps} (h : Iv p q s) : Rm (mcs p q s) := by
  refine ⟨ring.st_rt h.c, ring.st_rt h.e, h.k, ?_, ?_⟩
  · refine stL_all rfl (fun w hw b => ?_) (fun _ _ => rfl)
    obtain ⟨x, hx, rfl⟩ := List.mem_map.1 hw
    have := pkW_in (h.pk x hx)
    unfold cwB; simp; omega
  · refine stL_all rfl (fun w hw b => ?_) (fun _ _ => rfl)
    obtain ⟨x, hx, rfl⟩ := List.mem_map.1 hw
    have := evW_in (h.sm x hx)
    unfold ewB; simp; omega
theorem st_ws {p : Nat} {all : List Int} (h : ∀ w ∈ all, 0 ≤ w ∧ w < 18446744073709551616) : Ws (ring.stL p all) := by
  have := stL_all (p := p) (all := all) (f := fun x => decide (0 ≤ x.1) && decide (x.1 < 18446744073709551616)) (by decide) (fun w hw b => by have := h w hw; simp; omega) (fun b l => by simp)
  rw [List.all_eq_true] at this
  intro x hx
  have := this x hx
  simpa using this
theorem Iv.wc {p q : Nat} {s : Ps} (h : Iv p q s) : Ws (mcs p q s).c.C := st_ws fun w hw => by
  obtain ⟨x, hx, rfl⟩ := List.mem_map.1 hw
  have := pkW_in (h.pk x hx)
  omega
theorem Iv.we {p q : Nat} {s : Ps} (h : Iv p q s) : Ws (mcs p q s).e.C := st_ws fun w hw => by
  obtain ⟨x, hx, rfl⟩ := List.mem_map.1 hw
  have := evW_in (h.sm x hx)
  omega
theorem Iv.rt {p q : Nat} {s : Ps} (h : Iv p q s) : rtB (mcs p q s) = true := rt_iff.2 h.rm
theorem Iv.room {p q : Nat} {s : Ps} (h : Iv p q s) : ring.putB (mcs p q s).c = rmB p s := by
  have := ring.st_room h.c
  rw [List.length_map] at this
  exact this
theorem Iv.sb {p q : Nat} {s : Ps} (h : Iv p q s) (x : Cm) : sbV (mcs p q s) x = mcs p q (sbS p s x) ∧ sbC (mcs p q s) x = sbT p s x ∧ Iv p q (sbS p s x) := by
  unfold sbV sbC sbS sbT
  rw [h.rt, h.room]
  cases hb : pkB x
  · simp [h]
  · cases hr : rmB p s
    · simp [h]
    · simp only [Bool.true_eq_false, if_false, if_true, and_self]
      have hr' : (s.C.map pkW).length - s.g < p - 1 := by rw [List.length_map]; exact of_decide_eq_true hr
      refine ⟨?_, trivial, ?_⟩
      · have := ring.st_put h.c (pkW x)
        unfold mcs
        simp only
        rw [this, List.map_append]
        rfl
      · refine ⟨?_, h.e, fun y hy => ?_, h.sm, h.pl, h.w, h.k⟩
        · have := ring.inv_put h.c hr' (pkW x)
          rw [show ((s.C ++ [x]).map pkW) = s.C.map pkW ++ [pkW x] by simp]
          exact this
        · rcases List.mem_append.1 hy with q | q
          · exact h.pk y q
          · rw [List.mem_singleton.1 q]; exact pk_iff.1 hb
theorem Iv.at {p q : Nat} {s : Ps} (h : Iv p q s) (hl : s.E.length < s.C.length) : Pk (nth s) ∧ (ring.atG (mcs p q s).c).1 = pkW (nth s) := by
  have e : s.C[s.E.length]? = some (nth s) := by
    unfold nth
    rw [List.getD_eq_getElem?_getD, List.getElem?_eq_getElem hl]; rfl
  refine ⟨h.pk _ (List.mem_of_getElem? e), ?_⟩
  have := ring.st_has h.c (by rw [List.length_map]; exact hl)
  show (ring.atG (ring.st p (s.C.map pkW) s.E.length s.g)).1 = _
  rw [this]
  simp only
  rw [List.getD_eq_getElem?_getD, List.getElem?_map, e]
  rfl
theorem Iv.ws {p q : Nat} {s : Ps} (h : Iv p q s) : stB (mcs p q s) = wsB q s := by
  unfold stB wsB
  have h1 := ring.st_get h.c
  have h2 := ring.st_room h.e
  rw [List.length_map] at h1 h2
  show (ring.getB (ring.st p (s.C.map pkW) s.E.length s.g) && ring.putB (ring.st q (s.E.map evW) s.g s.g)) = _
  rw [h1, h2]
theorem Iv.wv {p q : Nat} {s : Ps} (h : Iv p q s) (hb : wsB q s = true) : stV (mcs p q s) = mcs p q (wsV p s) ∧ Iv p q (wsV p s) := by
  unfold wsB at hb
  simp only [Bool.and_eq_true, decide_eq_true_eq] at hb
  obtain ⟨hl, hr⟩ := hb
  obtain ⟨hp, ha⟩ := h.at (q := q) hl
  have hd : dn (mcs p q s) = tha s := by
    unfold dn tha
    rw [ha, up_pk hp]
    rfl
  have hn : nev (mcs p q s) = wsE p s := by
    unfold nev wsE
    rw [hd]
    rfl
  have h1 := ring.st_onG h.c
  have h2 := ring.st_put h.e (evW (wsE p s))
  have hsm : Sm (wsE p s) := by
    have := h.rm.sm
    rw [hn] at this
    exact this
  constructor
  · unfold stV
    rw [hn, hd]
    unfold mcs wsV
    simp only
    rw [h1, h2, List.length_append, List.map_append]
    rfl
  · refine ⟨?_, ?_, h.pk, fun y hy => ?_, fun i x hi => ?_, slots.do_wf h.w, do_chk h.w h.k⟩
    · have := ring.inv_get h.c (by rw [List.length_map]; exact hl)
      show ring.Inv p _ (s.E ++ [wsE p s]).length _
      rw [List.length_append]
      exact this
    · have := ring.inv_put h.e (by rw [List.length_map]; exact hr) (evW (wsE p s))
      show ring.Inv q ((s.E ++ [wsE p s]).map evW) _ _
      rw [List.map_append]
      exact this
    · rcases List.mem_append.1 hy with q | q
      · exact h.sm y q
      · rw [List.mem_singleton.1 q]; exact hsm
    · have hi : (s.E ++ [wsE p s])[i]? = some x := hi
      by_cases q : i < s.E.length
      · rw [List.getElem?_append_left q] at hi
        exact h.pl i x hi
      · have hlt := (List.getElem?_eq_some_iff.1 hi).1
        rw [List.length_append, List.length_singleton] at hlt
        have : i = s.E.length := by omega
        subst this
        rw [List.getElem?_append_right (Nat.le_refl _), Nat.sub_self] at hi
        simp at hi
        subst hi
        rfl
theorem Iv.wk {p q : Nat} : ∀ (n : Nat) {s : Ps}, Iv p q s → wkV n (mcs p q s) = mcs p q (wkS p q n s) ∧ Iv p q (wkS p q n s)
  | 0, s, h => ⟨rfl, h⟩
  | n + 1, s, h => by
    unfold wkV wkS
    rw [h.ws]
    cases hb : wsB q s
    · exact ⟨rfl, h⟩
    · rw [if_pos rfl, if_pos rfl, (h.wv hb).1]
      exact Iv.wk n (h.wv hb).2
theorem Iv.wr {p q : Nat} {s : Ps} (h : Iv p q s) (n : Int) : wrV (mcs p q s) n = mcs p q (wrS p q s n) ∧ Iv p q (wrS p q s n) := by
  unfold wrV wrS wkB
  rw [h.rt, Bool.true_and]
  split
  · exact Iv.wk _ h
  · exact ⟨rfl, h⟩
theorem on_fst (n : Nat) (a b c : Int) : (ring.on n a b).1 = (ring.on n a c).1 := by unfold ring.on; split <;> rfl
theorem Iv.rp {p q : Nat} {s : Ps} (h : Iv p q s) : rpV (mcs p q s) = mcs p q (rsV s) ∧ rpB (mcs p q s) = rsB s ∧ (rsB s = true → rpE (mcs p q s) = rsE s) ∧ Iv p q (rsV s) := by
  have h1 := ring.st_get h.e
  rw [List.length_map] at h1
  have hb : rpB (mcs p q s) = rsB s := by
    unfold rpB rsB
    rw [h.rt, Bool.true_and]
    exact h1
  unfold rpV rsV
  rw [hb]
  cases hr : rsB s
  · exact ⟨rfl, rfl, (fun h => by cases h), h⟩
  · have hl : s.g < s.E.length := of_decide_eq_true hr
    have e : s.E[s.g]? = some (rsE s) := by
      unfold rsE
      rw [List.getD_eq_getElem?_getD, List.getElem?_eq_getElem hl]; rfl
    have hE : rpE (mcs p q s) = rsE s := by
      have := ring.st_has h.e (by rw [List.length_map]; exact hl)
      unfold rpE
      show evU (ring.atG (ring.st q (s.E.map evW) s.g s.g)).1 = _
      rw [this]
      simp only
      rw [List.getD_eq_getElem?_getD, List.getElem?_map, e]
      exact evU_W (h.sm _ (List.mem_of_getElem? e))
    have hpl := h.pl _ _ e
    have hp2 := h.c.p2
    have hn : (mcs p q s).c.C.length = p + 1 := ring.stL_len p _
    have hs : snx (mcs p q s).c (rpE (mcs p q s)).2.2 = (((s.g + 1) % p : Nat) : Int) := by
      rw [hE, hpl]
      unfold snx
      have hm := Nat.mod_lt s.g (show 0 < p by omega)
      rw [hn, if_pos (ring.pl_iff.2 (by omega)), on_fst _ _ 0 (ring.mk p s.g).2]
      have := congrArg Prod.fst (ring.mk_on hp2 s.g)
      exact this
    refine ⟨?_, rfl, fun _ => hE, ?_⟩
    · rw [if_pos rfl, if_pos rfl]
      unfold reV
      rw [hs]
      have h2 := ring.st_onG h.e
      unfold mcs rgS
      simp only
      rw [h2]
      rfl
    · rw [if_pos rfl]
      have g1 := h.c.sg
      have g2 := h.c.ga
      have g3 := h.c.room
      have k2 := h.e.p2
      have k3 := h.e.room
      have k4 := h.e.ga
      rw [List.length_map] at g2 g3 k3 k4
      exact ⟨⟨h.c.p2, h.c.p63, hl, h.c.ga, by rw [List.length_map]; show s.C.length + 1 ≤ s.g + 1 + p; omega⟩, ⟨h.e.p2, h.e.p63, Nat.le_refl _, by rw [List.length_map]; exact hl, by rw [List.length_map]; show s.E.length + 1 ≤ s.g + 1 + q; omega⟩, h.pk, h.sm, h.pl, h.w, h.k⟩
theorem Iv.hl {p q : Nat} {s : Ps} (h : Iv p q s) (n e : Int) : Iv p q (hlS s n e) := ⟨h.c, h.e, h.pk, h.sm, h.pl, slots.hlt_wf h.w, hlt_chk h.w h.k⟩
theorem Iv.zero {p q : Nat} (h1 : 2 ≤ p) (h2 : p ≤ 63) (h3 : 2 ≤ q) (h4 : q ≤ 63) : Iv p q ps0 :=
  ⟨ring.inv_new h1 h2, ring.inv_new h3 h4, fun x hx => absurd hx (by simp [ps0]), fun x hx => absurd hx (by simp [ps0]), fun i x hx => by simp [ps0] at hx, slots.zB_wf, (slots.chk_iff slots.zB_wf).2 slots.zB_ok⟩
/-- a deed: its kind, command, number, slot, endpoint -/
abbrev Dd := Int × Cm × Int × Int × Int
def stp (p q : Nat) (s : Ps) (d : Dd) : Ps := if d.1 = 1 then sbS p s d.2.1 else if d.1 = 2 then wrS p q s d.2.2.1 else if d.1 = 3 then rsV s else if d.1 = 4 then hlS s d.2.2.2.1 d.2.2.2.2 else s
def tld (p : Nat) (s : Ps) (d : Dd) : List Int := if d.1 = 1 then [sbT p s d.2.1] else []
def pls (p q : Nat) : Ps → List Dd → Ps
  | s, [] => s
  | s, d :: r => pls p q (stp p q s d) r
def plt (p q : Nat) : Ps → List Dd → List Int
  | _, [] => []
  | s, d :: r => tld p s d ++ plt p q (stp p q s d) r
theorem Iv.stp {p q : Nat} {s : Ps} (h : Iv p q s) (d : Dd) : Iv p q (stp p q s d) := by
  unfold host.stp
  split
  · exact (h.sb _).2.2
  · split
    · exact (h.wr _).2
    · split
      · exact h.rp.2.2.2
      · split
        · exact h.hl _ _
        · exact h
theorem Iv.pls {p q : Nat} : ∀ {T : List Dd} {s : Ps}, Iv p q s → Iv p q (pls p q s T)
  | [], s, h => h
  | d :: r, s, h => Iv.pls (T := r) (h.stp d)
theorem pls_at {p q : Nat} {s : Ps} {T : List Dd} {k : Nat} {t : Dd} (h : T[k]? = some t) : pls p q s (T.drop k) = pls p q (stp p q s t) (T.drop (k + 1)) := by
  have hk := (List.getElem?_eq_some_iff.1 h).1
  have hx := (List.getElem?_eq_some_iff.1 h).2
  rw [List.drop_eq_getElem_cons hk, hx]
  rfl
theorem plt_at {p q : Nat} {s : Ps} {T : List Dd} {k : Nat} {t : Dd} (h : T[k]? = some t) : plt p q s (T.drop k) = tld p s t ++ plt p q (stp p q s t) (T.drop (k + 1)) := by
  have hk := (List.getElem?_eq_some_iff.1 h).1
  have hx := (List.getElem?_eq_some_iff.1 h).2
  rw [List.drop_eq_getElem_cons hk, hx]
  rfl
/-- what was reaped stays reaped -/
def rpd (s : Ps) : List Ev := s.E.take s.g
theorem rpd_sb (p : Nat) (s : Ps) (x : Cm) : rpd (sbS p s x) = rpd s := by unfold sbS; split <;> rfl
theorem rpd_ws {p q : Nat} {s : Ps} (h : Iv p q s) : rpd (wsV p s) = rpd s := by
  unfold rpd wsV
  simp only
  have := h.e.ga
  rw [List.length_map] at this
  rw [List.take_append_of_le_length this]
theorem rpd_wk {p q : Nat} : ∀ (n : Nat) {s : Ps}, Iv p q s → rpd (wkS p q n s) = rpd s
  | 0, s, h => rfl
  | n + 1, s, h => by
    unfold wkS
    split
    · rename_i hb
      rw [rpd_wk n (h.wv hb).2, rpd_ws h]
    · rfl
theorem rpd_wr {p q : Nat} {s : Ps} (h : Iv p q s) (n : Int) : rpd (wrS p q s n) = rpd s := by
  unfold wrS
  split
  · exact rpd_wk _ h
  · rfl
theorem rpd_rs {s : Ps} (hb : rsB s = true) : rpd (rsV s) = rpd s ++ [rsE s] := by
  have hl : s.g < s.E.length := of_decide_eq_true hb
  unfold rpd rsV
  rw [if_pos hb]
  show s.E.take (s.g + 1) = _
  rw [List.take_succ_eq_append_getElem hl]
  unfold rsE
  rw [List.getD_eq_getElem?_getD, List.getElem?_eq_getElem hl]
  rfl
theorem rpd_no {s : Ps} (hb : rsB s = false) : rsV s = s := by unfold rsV; rw [hb]; rfl
theorem plt_len {p q : Nat} : ∀ (T : List Dd) (s : Ps), (plt p q s T).length ≤ T.length
  | [], s => Nat.le_refl _
  | d :: r, s => by
    have := plt_len r (stp p q s d) (p := p) (q := q)
    unfold plt tld
    split <;> simp <;> omega
end Go.Proofs.Ythjmcopknkemnaa.host
