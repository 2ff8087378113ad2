/- bulk: what is plain about serving a disk. -/
import Derived.Test.YtecknicmonhcaabDoorBulB
import Derived.Test.YtecknicmonhcaabDoorScsP
namespace Go.Proofs.YtecknicmonhcaabDoor.bulk
open Go Go.RowKit Go.PlainAid Go.Proofs.YtecknicmonhcaabDoor.lane Go.Proofs.YtecknicmonhcaabDoor.pipe Go.Proofs.YtecknicmonhcaabDoor.strike Go.Proofs.YtecknicmonhcaabDoor.scsi
set_option linter.unusedVariables false
set_option maxRecDepth 100000

/-- how many bytes a command asks for -/
def askN (c : ByteArray) : Nat := if fmC (nums c) = 0 ∧ (nums c).getD 0 0 = 42 then 16 * (cntL (nums c)).toNat else 0
theorem ask_max (c : ByteArray) : askN c ≤ 1048560 := by
  have h := cnt_range c
  unfold askN
  split
  · omega
  · omega
/-- what a device means -/
def dvV (d : Dk) (c : ByteArray) : Mv := if doC d c (rpt 0 (askN c)) = 0 ∧ 0 < askN c then mvOf 2 (askN c : Int) else mvOf 1 ((doT d c (rpt 0 (askN c))).size : Int)
def svV (d : Dk) (x : Wp) : Vd := jdV (hsV x) (dvV d x.cmd)
theorem mvOf_right (dir : Int) (h1 : dir = 1 ∨ dir = 2) (n : Int) (h0 : 0 ≤ n) (h2 : n ≤ 4294967295) : mvB (mvOf dir n) = true ∧ (mvOf dir n).len = n := by
  unfold mvOf
  by_cases q : n = 0
  · rw [if_pos q]; exact ⟨rfl, q.symm⟩
  · rw [if_neg q]; exact ⟨(mv_iff _).2 (.inr ⟨h1, by show 1 ≤ n; omega, h2⟩), rfl⟩
theorem ans_size (d : Dk) (L : List Int) (h16 : ∀ x ∈ d.b, x.size = 16) (hn : d.b.length ≤ 64) : (ansT d L).size ≤ 1024 := by
  unfold ansT
  split
  · rw [str_size, List.length_take]; have : (senL d.s).length = 18 := rfl; omega
  split
  · rw [str_size, List.length_take]; have : inqL.length = 36 := rfl; omega
  split
  · rw [str_size, List.length_take]; have : modL.length = 4 := rfl; omega
  split
  · rw [str_size]; simp [be4]
  split
  · rw [size16 _ fun y hy => h16 y (List.mem_of_mem_drop (List.mem_of_mem_take hy)), List.length_take, List.length_drop]; omega
  · exact Nat.zero_le _
theorem do_size {d : Dk} (h : chkC d = 0) (c x : ByteArray) : (doT d c x).size ≤ 1024 := by
  have hc := (chk_iff d).1 h
  by_cases hz : doC d c x = 0
  · rw [(do_done hz).2]; exact ans_size d _ hc.2.2.1 hc.2.1
  · rw [(do_none hz).1]; exact Nat.zero_le _
theorem dv_right {d : Dk} (h : chkC d = 0) (c : ByteArray) : mvB (dvV d c) = true := by
  have h1 := ask_max c
  have h2 := do_size h c (rpt 0 (askN c))
  unfold dvV
  split
  · exact (mvOf_right 2 (.inr rfl) _ (by omega) (by omega)).1
  · exact (mvOf_right 1 (.inl rfl) _ (by omega) (by omega)).1
theorem hs_right {x : Wp} (h : wk x = true) : mvB (hsV x) = true ∧ (hsV x).len = x.len := by
  have hk := (wk_iff x).1 h
  unfold hsV
  split
  · exact mvOf_right 1 (.inl rfl) _ hk.2.1.1 hk.2.1.2
  · exact mvOf_right 2 (.inr rfl) _ hk.2.1.1 hk.2.1.2
theorem hs_dir (x : Wp) : (hsV x).dir = if x.len = 0 then 0 else if x.inn = true then 1 else 2 := by
  unfold hsV mvOf
  by_cases q : x.len = 0
  · rw [if_pos q, if_pos q, if_pos q]; split <;> rfl
  · rw [if_neg q, if_neg q, if_neg q]; split <;> rfl
/-- what is judged -/
theorem sv_facts {d : Dk} {x : Wp} (hd : chkC d = 0) (hx : wk x = true) :
    jdC (hsV x) (dvV d x.cmd) = 0 ∧ 0 ≤ (svV d x).moved ∧ (svV d x).moved ≤ x.len ∧ (svV d x).res = x.len - (svV d x).moved ∧ ((svV d x).code = 0 ∨ (svV d x).code = 2 ∧ (svV d x).moved = 0) ∧
    ((svV d x).code ≠ 2 → (svV d x).moved = min x.len (dvV d x.cmd).len ∧ ((dvV d x.cmd).dir = 0 ∨ (dvV d x.cmd).dir = (hsV x).dir ∧ (dvV d x.cmd).len ≤ x.len)) ∧ 0 ≤ x.len ∧ x.len ≤ 4294967295 := by
  obtain ⟨h1, h1l⟩ := hs_right hx
  have h2 := dv_right hd x.cmd
  obtain ⟨e1, e2⟩ := jd_ok h1 h2
  have hk := (wk_iff x).1 hx
  have hdl : 0 ≤ (dvV d x.cmd).len := by rcases (mv_iff _).1 h2 with q | q <;> omega
  have hmk := mkd_iff h1 h2
  rw [h1l] at e2 hmk
  unfold svV
  rw [e2]
  refine ⟨e1, ?_⟩
  by_cases q : mkd (csV (hsV x) (dvV d x.cmd)) = true
  · rw [if_pos q]
    exact ⟨Int.le_refl 0, hk.2.1.1, by show x.len = x.len - 0; omega, .inr ⟨rfl, rfl⟩, fun n => absurd rfl n, hk.2.1⟩
  · rw [if_neg q]
    refine ⟨?_, ?_, rfl, .inl rfl, fun _ => ⟨rfl, hmk.1 (by simpa using q)⟩, hk.2.1⟩
    · show 0 ≤ min _ _; omega
    · show min _ _ ≤ _; omega
/-- what take tells -/
def tkE (d : Dk) (s t : ByteArray) : Int := if chkC d ≠ 0 then chkC d else if rdC s ≠ 0 ∨ (rdW s).unit ≠ 0 then 8 else if (hsV (rdW s)).dir = 2 ∧ (svV d (rdW s)).code ≠ 2 ∧ (t.size : Int) ≠ (rdW s).len then 3 else 0
def tkW (d : Dk) (s : ByteArray) : Wp := if chkC d ≠ 0 then wp0 else if rdC s ≠ 0 ∨ (rdW s).unit ≠ 0 then wp0 else rdW s
def tkV (d : Dk) (s : ByteArray) : Vd := if chkC d ≠ 0 then vd0 else if rdC s ≠ 0 ∨ (rdW s).unit ≠ 0 then vd0 else svV d (rdW s)
theorem tk_ok {d : Dk} {s t : ByteArray} (h : tkE d s t = 0) : chkC d = 0 ∧ rdC s = 0 ∧ (rdW s).unit = 0 ∧ wk (rdW s) = true ∧ ¬ ((hsV (rdW s)).dir = 2 ∧ (svV d (rdW s)).code ≠ 2 ∧ (t.size : Int) ≠ (rdW s).len) ∧ tkW d s = rdW s ∧ tkV d s = svV d (rdW s) := by
  unfold tkE at h
  by_cases h1 : chkC d ≠ 0
  · rw [if_pos h1] at h; exact absurd h h1
  rw [if_neg h1] at h
  by_cases h2 : rdC s ≠ 0 ∨ (rdW s).unit ≠ 0
  · rw [if_pos h2] at h; cases h
  rw [if_neg h2] at h
  by_cases h3 : (hsV (rdW s)).dir = 2 ∧ (svV d (rdW s)).code ≠ 2 ∧ (t.size : Int) ≠ (rdW s).len
  · rw [if_pos h3] at h; cases h
  have hr : rdC s = 0 := Classical.not_not.1 fun q => h2 (.inl q)
  have hu : (rdW s).unit = 0 := Classical.not_not.1 fun q => h2 (.inr q)
  obtain ⟨i1, i2, _⟩ := rd_is hr
  exact ⟨Classical.not_not.1 h1, hr, hu, by rw [i1]; exact i2, h3, by unfold tkW; rw [if_neg h1, if_neg h2], by unfold tkV; rw [if_neg h1, if_neg h2]⟩
/-- what Serve tells -/
def gvS (d : Dk) (s t : ByteArray) : ByteArray := gvT (rdW s) (svV d (rdW s)) t
def svC (d : Dk) (s t : ByteArray) : Int := if (svV d (rdW s)).code = 2 then 2 else if doC d (rdW s).cmd (gvS d s t) ≠ 0 then 1 else 0
def svD (d : Dk) (s t : ByteArray) : Dk := if tkE d s t ≠ 0 then d else if (svV d (rdW s)).code = 2 then d else doD d (rdW s).cmd (gvS d s t)
def svA (d : Dk) (s t : ByteArray) : ByteArray := if tkE d s t ≠ 0 then ⟨#[]⟩ else if (svV d (rdW s)).code = 2 then ⟨#[]⟩ else doT d (rdW s).cmd (gvS d s t)
def svS (d : Dk) (s t : ByteArray) : Sp := ⟨(rdW s).tag, (svV d (rdW s)).res, svC d s t⟩
def svT (d : Dk) (s t : ByteArray) : ByteArray := if tkE d s t ≠ 0 then ⟨#[]⟩ else stT (svS d s t)
theorem sv_status {d : Dk} {s t : ByteArray} (h : tkE d s t = 0) : sk (svS d s t) = true ∧ stC (svS d s t) = 0 := by
  obtain ⟨h1, h2, h3, h4, h5, _, _⟩ := tk_ok h
  obtain ⟨f1, f2, f3, f4, f5, f6, f7⟩ := sv_facts h1 h4
  have hk := (wk_iff _).1 h4
  have hc : 0 ≤ svC d s t ∧ svC d s t ≤ 2 := by unfold svC; split; decide; split <;> decide
  have : sk (svS d s t) = true := (sk_iff _).2 ⟨hk.1, by show 0 ≤ (svV d (rdW s)).res ∧ (svV d (rdW s)).res ≤ _; omega, hc⟩
  exact ⟨this, if_pos this⟩
theorem gv_fits {d : Dk} {s t : ByteArray} (h : tkE d s t = 0) (h2 : (svV d (rdW s)).code ≠ 2) : 0 ≤ (svV d (rdW s)).moved ∧ ((rdW s).inn = false → (svV d (rdW s)).moved ≤ (t.size : Int)) := by
  obtain ⟨h1, _, h3, h4, h5, _, _⟩ := tk_ok h
  obtain ⟨f1, f2, f3, f4, f5, f6, f7⟩ := sv_facts h1 h4
  refine ⟨f2, fun q => ?_⟩
  by_cases hl : (rdW s).len = 0
  · omega
  · have hd : (hsV (rdW s)).dir = 2 := by rw [hs_dir, if_neg hl, q]; rfl
    have : (t.size : Int) = (rdW s).len := Classical.not_not.1 fun n => h5 ⟨hd, h2, n⟩
    omega
theorem sn_other {n : Nat} {L : List Int} {y z : Nat} (h : L.getD 0 0 ≠ 42) : snS n L y = snS n L z := by
  unfold snS
  by_cases h1 : fmC L ≠ 0
  · rw [if_pos h1, if_pos h1]
  · rw [if_neg h1, if_neg h1]
    rw [if_neg (c := L.getD 0 0 = 42 ∧ _) (fun q => h q.1), if_neg (c := L.getD 0 0 = 42 ∧ _) (fun q => h q.1)]
theorem do_other {d : Dk} {c x y : ByteArray} (h : (nums c).getD 0 0 ≠ 42) : doC d c x = doC d c y ∧ doT d c x = doT d c y := by
  unfold doC doT
  rw [sn_other (y := x.size) (z := y.size) h]
  exact ⟨rfl, rfl⟩
theorem ask_other {c : ByteArray} (h : (nums c).getD 0 0 ≠ 42) : askN c = 0 := if_neg fun q => h q.2
/-- what is answered is just what is moved -/
theorem sv_ans {d : Dk} {x : Wp} {g : ByteArray} (hd : chkC d = 0) (hx : wk x = true) (h2 : (svV d x).code ≠ 2) (hz : doC d x.cmd g = 0) :
    ((hsV x).dir ≠ 1 → (doT d x.cmd g).size = 0) ∧ ((doT d x.cmd g).size : Int) ≤ (svV d x).moved := by
  obtain ⟨f1, f2, f3, f4, f5, f6, f7⟩ := sv_facts hd hx
  obtain ⟨m1, m2⟩ := f6 h2
  by_cases h42 : (nums x.cmd).getD 0 0 = 42
  · have : doT d x.cmd g = ⟨#[]⟩ := by
      rw [(do_done hz).2]
      unfold ansT
      rw [h42, if_neg (by decide), if_neg (by decide), if_neg (by decide), if_neg (by decide), if_neg (by decide)]
    rw [this]
    exact ⟨fun _ => rfl, f2⟩
  · have ha := ask_other h42
    obtain ⟨o1, o2⟩ := do_other (d := d) (x := g) (y := rpt 0 (askN x.cmd)) h42
    have hv : dvV d x.cmd = mvOf 1 ((doT d x.cmd g).size : Int) := by
      unfold dvV
      rw [if_neg (by rw [ha]; exact fun q => absurd q.2 (by decide)), ← o2]
    rw [hv] at m1 m2
    unfold mvOf at m1 m2
    by_cases q : ((doT d x.cmd g).size : Int) = 0
    · exact ⟨fun _ => by omega, by omega⟩
    · rw [if_neg q] at m1 m2
      rcases m2 with m2 | ⟨m2, m3⟩
      · exact absurd (show (1 : Int) = 0 from m2) (by decide)
      · have m2 : 1 = (hsV x).dir := m2
        have m3 : ((doT d x.cmd g).size : Int) ≤ x.len := m3
        have m1 : (svV d x).moved = min x.len ((doT d x.cmd g).size : Int) := m1
        exact ⟨fun n => absurd m2.symm n, by omega⟩
/-- the document's way to what a device means -/
def rmV (d : Dk) (c : ByteArray) : Mv :=
  if bt c 0 = 42 ∧ c.size = 10 then (if snS d.b.length (nums c) (16 * (cntL (nums c)).toNat) ≠ 0 ∨ 16 * (cntL (nums c)).toNat = 0 then mv0 else ⟨2, ((16 * (cntL (nums c)).toNat : Nat) : Int)⟩)
  else mvOf 1 ((doT d c ⟨#[]⟩).size : Int)
theorem rm_dv {d : Dk} {c : ByteArray} (hd : chkC d = 0) (hc : 0 < c.size) : dvV d c = rmV d c := by
  have hb : bt c 0 = (nums c).getD 0 0 := bt_nums c 0 hc
  have hcode : ∀ z : ByteArray, doC d c z = 0 ↔ snS d.b.length (nums c) z.size = 0 := fun z => by
    unfold doC
    rw [if_neg (by rw [hd]; decide)]
    by_cases q : snS d.b.length (nums c) z.size ≠ 0
    · rw [if_pos q]; exact ⟨(fun h => by cases h), fun h => absurd h q⟩
    · rw [if_neg q]; exact ⟨fun _ => Classical.not_not.1 q, fun _ => rfl⟩
  unfold rmV
  by_cases h : bt c 0 = 42 ∧ c.size = 10
  · rw [if_pos h]
    have h42 : (nums c).getD 0 0 = 42 := by rw [← hb]; exact h.1
    by_cases hf : fmC (nums c) = 0
    · have ha : askN c = 16 * (cntL (nums c)).toNat := if_pos ⟨hf, h42⟩
      rw [← ha]
      by_cases hs : snS d.b.length (nums c) (askN c) = 0
      · have hz : doC d c (rpt 0 (askN c)) = 0 := (hcode _).2 (by rw [rpt_size]; exact hs)
        by_cases h0 : 0 < askN c
        · rw [if_neg (by rw [hs]; omega)]
          unfold dvV mvOf
          rw [if_pos ⟨hz, h0⟩, if_neg (by omega)]
        · rw [if_pos (.inr (by omega))]
          unfold dvV
          rw [if_neg fun q => h0 q.2, (do_done hz).2]
          unfold ansT
          rw [h42, if_neg (by decide), if_neg (by decide), if_neg (by decide), if_neg (by decide), if_neg (by decide)]
          rfl
      · rw [if_pos (.inl hs)]
        have hz : doC d c (rpt 0 (askN c)) ≠ 0 := fun q => hs (by have := (hcode _).1 q; rw [rpt_size] at this; exact this)
        unfold dvV
        rw [if_neg fun q => hz q.1, (do_none hz).1]
        rfl
    · have hsn : ∀ z, snS d.b.length (nums c) z ≠ 0 := fun z => by unfold snS; rw [if_pos hf]; exact hf
      rw [if_pos (.inl (hsn _))]
      have hz : doC d c (rpt 0 (askN c)) ≠ 0 := fun q => hsn _ ((hcode _).1 q)
      unfold dvV
      rw [if_neg fun q => hz q.1, (do_none hz).1]
      rfl
  · rw [if_neg h]
    have ha : askN c = 0 := by
      unfold askN
      refine if_neg fun q => h ⟨by rw [hb]; exact q.2, ?_⟩
      have := fm_zero c q.1
      have e : bt c 0 = 42 := by rw [hb]; exact q.2
      rw [e] at this
      exact this.2.2
    unfold dvV
    rw [if_neg (by rw [ha]; exact fun q => absurd q.2 (by decide)), ha]
    rfl
end Go.Proofs.YtecknicmonhcaabDoor.bulk
